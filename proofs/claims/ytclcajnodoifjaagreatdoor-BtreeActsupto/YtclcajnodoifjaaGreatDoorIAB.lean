/-
 Trees of entries as plain data: an entry is dropped.
-/
import Derived.Test.YtclcajnodoifjaaGreatDoorIAA
import Derived.Test.YtclcajnodoifjaaGreatDoorProg
import Derived.WalkKit
import Derived.WalkSpells
import Derived.WalkLawsBesides
import Derived.Lib.OthersKept
import Derived.Lib.ValidLaws
import Derived.Test.YtclcajnodoifjaaGreatDoorShelf
namespace Go.Proofs.YtclcajnodoifjaaGreatDoor
set_option maxRecDepth 100000

/-- the last entry, d levels down -/
def Nd.lastN {α : Type} : Nat → Nd α → Option α
 | 0, n => n.es.getLast?
 | d + 1, n => match n.ks.getLast? with
  | some k => k.lastN d
  | none => none
/-- another kid in a place, joined to one beside it if it has too few entries -/
def Nd.lessK {α : Type} (n : Nd α) (i : Nat) (kid : Nd α) : Nd α :=
 if 8 ≤ kid.es.length then n.withK i (i + 1) kid
 else if 0 < i then
  match n.ks[i - 1]?, n.es[i - 1]? with
  | some k, some m => n.withK (i - 1) (i + 1) (k.join m kid)
  | _, _ => n
 else
  match n.es[i]?, n.ks[i + 1]? with
  | some m, some k => n.withK i (i + 2) (kid.join m k)
  | _, _ => n
/-- a node with another entry in a place -/
def Nd.setE {α : Type} (n : Nd α) (i : Nat) (e : α) : Nd α := .mk (n.es.set i e) n.ks
def Nd.dropN {α : Type} (lt : α → α → Bool) : Nat → Nd α → α → Nd α
 | 0, n, e => .mk (n.es.take (place lt e n.es) ++ n.es.drop (place lt e n.es + 1)) []
 | d + 1, n, e =>
  match n.ks[place lt e n.es]? with
  | none => n
  | some k =>
   if (match n.es[place lt e n.es]? with | some y => lt e y | none => true) = true then
    n.lessK (place lt e n.es) (k.dropN lt d e)
   else
    match k.lastN d with
    | none => n
    | some up => (n.setE (place lt e n.es) up).lessK (place lt e n.es) (k.dropN lt d up)
theorem ahead_succ {α : Type} {n k : Nd α} {i : Nat} {m : α} (hk : n.ks[i]? = some k) (hm : n.es[i]? = some m) : n.ahead (i + 1) = n.ahead i ++ (k.fl ++ [m]) := by
 obtain ⟨h1, h2⟩ := List.getElem?_eq_some_iff.1 hk
 obtain ⟨h3, h4⟩ := List.getElem?_eq_some_iff.1 hm
 unfold Nd.ahead
 have e1 : n.es.take (i + 1) = n.es.take i ++ [m] := by rw [List.take_add_one, hm]; rfl
 have e2 : n.ks.take (i + 1) = n.ks.take i ++ [k] := by rw [List.take_add_one, hk]; rfl
 rw [e1, e2, List.map_append, pre_app _ _ _ _ (by simp; omega)]
 simp [pre]
theorem behind_succ {α : Type} {n k : Nd α} {i : Nat} {m : α} (hk : n.ks[i + 1]? = some k) (hm : n.es[i]? = some m) : n.behind (i + 1) = m :: (k.fl ++ n.behind (i + 2)) := by
 obtain ⟨h1, h2⟩ := List.getElem?_eq_some_iff.1 hk
 obtain ⟨h3, h4⟩ := List.getElem?_eq_some_iff.1 hm
 unfold Nd.behind
 rw [Nat.add_sub_cancel, List.drop_eq_getElem_cons h3, List.drop_eq_getElem_cons h1, h2, h4]
 rfl
theorem last_ok {α : Type} : ∀ (d : Nat) {lo hi : Nat} {n : Nd α}, n.wf d lo hi → 1 ≤ lo → ∃ l m, n.lastN d = some m ∧ n.fl = l ++ [m]
 | 0, lo, hi, n, h, h1 => by
  have hl := wf_len h
  have hne : n.es ≠ [] := by intro h0; rw [h0] at hl; simp at hl; omega
  exact ⟨n.es.dropLast, n.es.getLast hne, by rw [Nd.lastN, List.getLast?_eq_some_getLast hne], by rw [fl_zero h, List.dropLast_concat_getLast hne]⟩
 | d + 1, lo, hi, n, h, h1 => by
  have hn := wf_klen h
  have hk : n.ks[n.es.length]? = some (n.ks[n.es.length]'(by omega)) := List.getElem?_eq_getElem (by omega)
  generalize n.ks[n.es.length]'(by omega) = k at hk
  have hg : n.ks.getLast? = some k := by
   rw [List.getLast?_eq_getElem?, hn, Nat.add_sub_cancel, hk]
  obtain ⟨l, m, e1, e2⟩ := last_ok d (wf_kid h hk) (by omega)
  refine ⟨n.ahead n.es.length ++ l, m, by rw [Nd.lastN, hg]; exact e1, ?_⟩
  have hb : n.behind (n.es.length + 1) = [] := by
   unfold Nd.behind
   rw [Nat.add_sub_cancel, List.drop_length]
   simp [post]
  rw [fl_part hn hk, hb, e2]
  simp
theorem withK_few {α : Type} {n kid : Nd α} {f t : Nat} (h : kid.es.length ≤ 16) : n.withK f t kid = n.with1 f t kid := by
 unfold Nd.withK
 rw [if_neg (by omega)]
theorem lessK_ok {α : Type} {d lo hi i : Nat} {n kid : Nd α} (h : n.wf (d + 1) lo hi) (h1 : 1 ≤ n.es.length) (hi : i < n.ks.length) (hk : kid.wf d 7 16) : (n.lessK i kid).fl = n.ahead i ++ (kid.fl ++ n.behind (i + 1)) ∧ (n.lessK i kid).wf (d + 1) (n.es.length - 1) n.es.length := by
 have hn := wf_klen h
 have hl := wf_len hk
 unfold Nd.lessK
 by_cases h8 : 8 ≤ kid.es.length
 ·rw [if_pos h8, withK_few hl.2]
  exact ⟨with1_fl hn (by omega) (by omega), with1_wf h (by omega) (by omega) (wf_mono hk h8 hl.2) (by omega) (by omega)⟩
 ·rw [if_neg h8]
  by_cases h0 : 0 < i
  ·rw [if_pos h0]
   obtain ⟨j, rfl⟩ : ∃ j, i = j + 1 := ⟨i - 1, by omega⟩
   have hkk : n.ks[j]? = some (n.ks[j]'(by omega)) := List.getElem?_eq_getElem (by omega)
   generalize n.ks[j]'(by omega) = k at hkk
   have hm : n.es[j]? = some (n.es[j]'(by omega)) := List.getElem?_eq_getElem (by omega)
   generalize n.es[j]'(by omega) = m at hm
   have hkw := wf_kid h hkk
   obtain ⟨w1, w2⟩ := withK_ok (f := j) (t := j + 2) (kid := k.join m kid) h (by omega) (by omega) (wf_mono (join_wf hkw hk) (by have := wf_len (join_wf (m := m) hkw hk); omega) (by have := wf_len (join_wf (m := m) hkw hk); omega))
   have w3 := wf_len w2
   rw [Nat.add_sub_cancel, hkk, hm]
   show (n.withK j (j + 2) (k.join m kid)).fl = _ ∧ (n.withK j (j + 2) (k.join m kid)).wf _ _ _
   refine ⟨?_, wf_mono w2 (by omega) (by omega)⟩
   rw [w1, join_fl hkw hk, ahead_succ hkk hm]
   simp
  ·rw [if_neg h0]
   have : i = 0 := by omega
   subst this
   have hkk : n.ks[0 + 1]? = some (n.ks[0 + 1]'(by omega)) := List.getElem?_eq_getElem (by omega)
   generalize n.ks[0 + 1]'(by omega) = k at hkk
   have hm : n.es[0]? = some (n.es[0]'(by omega)) := List.getElem?_eq_getElem (by omega)
   generalize n.es[0]'(by omega) = m at hm
   have hkw := wf_kid h hkk
   obtain ⟨w1, w2⟩ := withK_ok (f := 0) (t := 0 + 2) (kid := kid.join m k) h (by omega) (by omega) (wf_mono (join_wf hk hkw) (by have := wf_len (join_wf (m := m) hk hkw); omega) (by have := wf_len (join_wf (m := m) hk hkw); omega))
   have w3 := wf_len w2
   rw [hkk, hm]
   show (n.withK 0 (0 + 2) (kid.join m k)).fl = _ ∧ (n.withK 0 (0 + 2) (kid.join m k)).wf _ _ _
   refine ⟨?_, wf_mono w2 (by omega) (by omega)⟩
   rw [w1, join_fl hk hkw, behind_succ hkk hm]
   simp
theorem setE_wf {α : Type} {d lo hi i : Nat} {n : Nd α} {e : α} (h : n.wf (d + 1) lo hi) : (n.setE i e).wf (d + 1) lo hi := by
 cases n with
 | mk es ks => exact ⟨by simpa [Nd.es, Nd.ks] using h.1, by simpa [Nd.es] using h.2.1, by simpa [Nd.es] using h.2.2.1, h.2.2.2⟩
theorem setE_ahead {α : Type} {i : Nat} {n : Nd α} {e : α} : (n.setE i e).ahead i = n.ahead i := by
 unfold Nd.ahead Nd.setE
 simp only [Nd.es, Nd.ks]
 rw [List.take_set_of_le (by omega)]
theorem setE_behind {α : Type} {i : Nat} {n k : Nd α} {e : α} (hi : i < n.es.length) (hk : n.ks[i + 1]? = some k) : (n.setE i e).behind (i + 1) = e :: (k.fl ++ n.behind (i + 2)) := by
 have h1 : (n.setE i e).es = n.es.set i e := rfl
 have h2 : (n.setE i e).ks = n.ks := rfl
 rw [behind_succ (n := n.setE i e) (k := k) (m := e) hk (by rw [h1]; simp [hi])]
 have : (n.setE i e).behind (i + 2) = n.behind (i + 2) := by
  unfold Nd.behind
  rw [h1, h2, List.drop_set_of_lt (by omega)]
 rw [this]
theorem del_like {α : Type} {lt : α → α → Bool} {e y : α} {a b : List α} (h1 : ∀ x ∈ a, lt x e = true) (h2 : ∀ x ∈ b, lt e x = true) (h3 : lt y e = false) (h4 : lt e y = false) : del lt e (a ++ y :: b) = a ++ b := by
 have := del_mid (lt := lt) (e := e) (a := a) (m := [y]) (b := b) h1 h2
 rw [show a ++ y :: b = a ++ ([y] ++ b) by simp, this]
 simp [del, h3, h4]
theorem irr {α : Type} {lt : α → α → Bool} (o : Ord3 lt) (x : α) : lt x x = false := by
 cases h : lt x x
 ·rfl
 ·rw [← h]; exact o.asym h
/-- what is like e is where e belongs -/
theorem drop_ok {α : Type} {lt : α → α → Bool} (o : Ord3 lt) : ∀ (d : Nat) {lo : Nat} {n : Nd α} {e : α}, n.wf d lo 16 → 1 ≤ n.es.length → Rise lt n.fl → (∃ x ∈ n.fl, lt x e = false ∧ lt e x = false) → (n.dropN lt d e).fl = del lt e n.fl ∧ (n.dropN lt d e).wf d (n.es.length - 1) n.es.length
 | 0, lo, n, e, h, h1, hr, ⟨x, hx, hx1, hx2⟩ => by
  rw [fl_zero h] at hr hx ⊢
  have hp := place_le lt e n.es
  have hlt : place lt e n.es < n.es.length := by
   apply Nat.lt_of_not_le
   intro hc
   obtain ⟨i, hi, e1⟩ := List.getElem_of_mem hx
   have := place_ahead (lt := lt) (e := e) (l := n.es) (i := i) (y := x) (by omega) (by rw [List.getElem?_eq_getElem hi, e1])
   rw [this] at hx1
   cases hx1
  have hy : n.es[place lt e n.es]? = some (n.es[place lt e n.es]'hlt) := List.getElem?_eq_getElem hlt
  generalize n.es[place lt e n.es]'hlt = y at hy
  have hy1 := place_at hy
  have es : n.es = n.es.take (place lt e n.es) ++ y :: n.es.drop (place lt e n.es + 1) := by
   obtain ⟨_, q⟩ := List.getElem?_eq_some_iff.1 hy
   rw [← q, ← List.drop_eq_getElem_cons hlt, List.take_append_drop]
  have ha : ∀ z ∈ n.es.take (place lt e n.es), lt z e = true := by
   intro z hz
   rw [take_place] at hz
   exact takeWhile_all (p := fun x => lt x e) hz
  have hr' := hr
  rw [es] at hr' hx
  obtain ⟨r1, r2, r3⟩ := List.pairwise_append.1 hr'
  obtain ⟨r4, r5⟩ := List.pairwise_cons.1 r2
  have hb : ∀ z ∈ n.es.drop (place lt e n.es + 1), lt e z = true := fun z hz => o.le_lt hy1 (r4 z hz)
  have hy2 : lt e y = false := by
   rcases List.mem_append.1 hx with hx | hx
   ·rw [ha x hx] at hx1; cases hx1
   ·rcases List.mem_cons.1 hx with hx | hx
    ·rw [← hx]; exact hx2
    ·rw [hb x hx] at hx2; cases hx2
  refine ⟨?_, ?_⟩
  ·unfold Nd.dropN
   rw [fl_leaf]
   conv => rhs; rw [es]
   rw [del_like ha hb hy1 hy2]
  ·unfold Nd.dropN
   refine ⟨rfl, ?_, ?_⟩ <;> simp <;> omega
 | d + 1, lo, n, e, h, h1, hr, ⟨x, hx, hx1, hx2⟩ => by
  have hn := wf_klen h
  have hp := place_le lt e n.es
  have hk : n.ks[place lt e n.es]? = some (n.ks[place lt e n.es]'(by omega)) := List.getElem?_eq_getElem (by omega)
  generalize n.ks[place lt e n.es]'(by omega) = k at hk
  obtain ⟨a1, a2, a3⟩ := around o hn hr hk
  have hkw := wf_kid h hk
  have hkl := wf_len hkw
  have hpart := fl_part hn hk
  have hr' := hr
  rw [hpart] at hr' hx
  obtain ⟨r1, r2, r3⟩ := List.pairwise_append.1 hr'
  obtain ⟨_, r4, r5⟩ := List.pairwise_append.1 r2
  by_cases hc : (match n.es[place lt e n.es]? with | some y => lt e y | none => true) = true
  ·have ed : n.dropN lt (d + 1) e = n.lessK (place lt e n.es) (k.dropN lt d e) := by
    rw [Nd.dropN, hk]
    show (if _ then _ else _) = _
    rw [if_pos hc]
   have hb : ∀ z ∈ n.behind (place lt e n.es + 1), lt e z = true := by
    intro z hz
    obtain ⟨y, hy, hyz⟩ := behind_ge hn r4 hz
    rw [hy] at hc
    have hc : lt e y = true := hc
    rcases hyz with hyz | hyz
    ·exact o.trans hc hyz
    ·rw [hyz]; exact hc
   have hxk : x ∈ k.fl := by
    rcases List.mem_append.1 hx with hx | hx
    ·rw [a2 x hx] at hx1; cases hx1
    ·rcases List.mem_append.1 hx with hx | hx
     ·exact hx
     ·rw [hb x hx] at hx2; cases hx2
   obtain ⟨i1, i2⟩ := drop_ok o d (e := e) hkw (by omega) a1 ⟨x, hxk, hx1, hx2⟩
   have i3 := wf_len i2
   obtain ⟨w1, w2⟩ := lessK_ok (i := place lt e n.es) (kid := k.dropN lt d e) h h1 (by omega) (wf_mono i2 (by omega) (by omega))
   rw [ed]
   refine ⟨?_, w2⟩
   rw [w1, i1, hpart, del_mid a2 hb]
  ·have hlt : place lt e n.es < n.es.length := by
    apply Nat.lt_of_not_le
    intro h2
    rw [List.getElem?_eq_none h2] at hc
    exact hc rfl
   have hy : n.es[place lt e n.es]? = some (n.es[place lt e n.es]'hlt) := List.getElem?_eq_getElem hlt
   generalize n.es[place lt e n.es]'hlt = y at hy
   have hy1 := place_at hy
   have hy2 : lt e y = false := by
    rw [hy] at hc
    have hc : ¬ lt e y = true := hc
    simpa using hc
   have hk2 : n.ks[place lt e n.es + 1]? = some (n.ks[place lt e n.es + 1]'(by omega)) := List.getElem?_eq_getElem (by omega)
   generalize n.ks[place lt e n.es + 1]'(by omega) = k2 at hk2
   obtain ⟨l, up, e1, e2⟩ := last_ok d hkw (by omega)
   have ed : n.dropN lt (d + 1) e = (n.setE (place lt e n.es) up).lessK (place lt e n.es) (k.dropN lt d up) := by
    rw [Nd.dropN, hk]
    show (if _ then _ else _) = _
    rw [if_neg hc, e1]
   obtain ⟨i1, i2⟩ := drop_ok o d (e := up) hkw (by omega) a1 ⟨up, by rw [e2]; simp, irr o up, irr o up⟩
   have i3 := wf_len i2
   have sl : (n.setE (place lt e n.es) up).es.length = n.es.length := by simp [Nd.setE, Nd.es]
   have sk : (n.setE (place lt e n.es) up).ks = n.ks := rfl
   obtain ⟨w1, w2⟩ := lessK_ok (i := place lt e n.es) (kid := k.dropN lt d up) (setE_wf (i := place lt e n.es) (e := up) h) (by omega) (by rw [sk]; omega) (wf_mono i2 (by omega) (by omega))
   have sb := setE_behind (e := up) hlt hk2
   have nb := behind_succ hk2 hy
   have du : del lt up k.fl = l := by
    have q := a1
    rw [e2] at q ⊢
    have := del_like (lt := lt) (e := up) (y := up) (a := l) (b := []) (fun z hz => (List.pairwise_append.1 q).2.2 z hz up (by simp)) (by simp) (irr o up) (irr o up)
    rw [this, List.append_nil]
   rw [ed]
   refine ⟨?_, by rw [sl] at w2; exact w2⟩
   rw [w1, setE_ahead, i1, du, sb, hpart, nb, e2]
   rw [nb] at r4 r5
   have := del_like (lt := lt) (e := e) (y := y) (a := n.ahead (place lt e n.es) ++ (l ++ [up])) (b := k2.fl ++ n.behind (place lt e n.es + 2)) (by
    intro z hz
    rcases List.mem_append.1 hz with hz | hz
    ·exact a2 z hz
    ·rw [← e2] at hz
     exact o.lt_le (r5 z hz y (by simp)) hy2) (by
    intro z hz
    exact o.le_lt hy1 ((List.pairwise_cons.1 r4).1 z hz)) hy1 hy2
   rw [List.append_assoc] at this
   rw [this]
   simp
end Go.Proofs.YtclcajnodoifjaaGreatDoor

namespace Go.Proofs.YtclcajnodoifjaaGreatDoor
set_option maxRecDepth 100000

/-- a node as the one above all others -/
def Nd.rootN {α : Type} (n : Nd α) : Nd α :=
 if 16 < n.es.length then
  match n.halves with
  | some (l, m, r) => .mk [m] [l, r]
  | none => n
 else if n.es.length = 0 then
  match n.ks with
  | [k] => k
  | _ => n
 else n
/-- a tree: a leaf of up to 16, or kids below one entry at least -/
def Nd.tree {α : Type} (d : Nat) (n : Nd α) : Prop := n.wf d (min d 1) 16
theorem root_ok {α : Type} {d : Nat} {n : Nd α} (h : n.wf d 0 17) : n.rootN.fl = n.fl ∧ ∃ d', n.rootN.tree d' := by
 have hl := wf_len h
 unfold Nd.rootN
 by_cases h16 : 16 < n.es.length
 ·obtain ⟨l, m, r, e1, e2, e3, e4⟩ := halves_some h h16 (by omega)
  rw [if_pos h16, e1]
  refine ⟨?_, d + 1, ?_⟩
  ·show (Nd.mk [m] [l, r]).fl = _
   rw [e2, Nd.fl_eq]
   simp [il, post]
  ·show Nd.wf (d + 1) (min (d + 1) 1) 16 (Nd.mk [m] [l, r])
   refine ⟨rfl, by simp, by simp, fun k hk => ?_⟩
   rcases List.mem_cons.1 hk with rfl | hk
   ·exact e3
   ·rw [List.mem_singleton.1 hk]; exact e4
 ·rw [if_neg h16]
  by_cases h0 : n.es.length = 0
  ·rw [if_pos h0]
   cases d with
   | zero =>
    cases n with
    | mk es ks =>
     have hk := h.1
     subst hk
     show (Nd.mk es []).fl = _ ∧ ∃ d', (Nd.mk es []).tree d'
     exact ⟨rfl, 0, wf_mono h (by simp) (by omega)⟩
   | succ d =>
    have hn := wf_klen h
    rw [h0] at hn
    obtain ⟨k, hk⟩ := List.length_eq_one_iff.1 hn
    rw [hk]
    have hk0 : n.ks[0]? = some k := by rw [hk]; rfl
    have hkw := wf_kid h hk0
    have hkl := wf_len hkw
    show k.fl = n.fl ∧ ∃ d', k.tree d'
    refine ⟨?_, d, wf_mono hkw (by omega) hkl.2⟩
    have he : n.es = [] := List.eq_nil_of_length_eq_zero h0
    rw [n.eta, hk, he, Nd.fl_eq]
    simp [il, post]
  ·rw [if_neg h0]
   exact ⟨rfl, d, wf_mono h (by omega) (by omega)⟩
/-- the first place from which on something holds -/
def from_ {α : Type} (p : α → Bool) (l : List α) : Nat := (l.takeWhile (fun x => !p x)).length
theorem from_le {α : Type} (p : α → Bool) (l : List α) : from_ p l ≤ l.length := (List.takeWhile_prefix _).length_le
theorem from_ahead {α : Type} {p : α → Bool} {l : List α} {i : Nat} {y : α} (hi : i < from_ p l) (h : l[i]? = some y) : p y = false := by
 have := place_ahead (lt := fun x (_ : α) => !p x) (e := y) (l := l) (i := i) (y := y) hi h
 simpa using this
theorem from_at {α : Type} {p : α → Bool} {l : List α} {y : α} (h : l[from_ p l]? = some y) : p y = true := by
 have := place_at (lt := fun x (_ : α) => !p x) (e := y) (l := l) (y := y) h
 simpa using this
/-- what holds at an entry holds at all behind it -/
abbrev Up {α : Type} (lt : α → α → Bool) (p : α → Bool) : Prop := ∀ a b, lt a b = true → p a = true → p b = true
theorem from_behind {α : Type} {lt : α → α → Bool} {p : α → Bool} (hu : Up lt p) {l : List α} (hr : Rise lt l) {i : Nat} {y : α} (hi : from_ p l ≤ i) (h : l[i]? = some y) : p y = true := by
 obtain ⟨h1, h2⟩ := List.getElem?_eq_some_iff.1 h
 have h3 : from_ p l < l.length := by omega
 have h4 := from_at (p := p) (l := l) (List.getElem?_eq_getElem h3)
 by_cases he : from_ p l = i
 ·rw [← h2]
  simpa only [he] using h4
 ·have := List.pairwise_iff_getElem.1 hr (from_ p l) i h3 h1 (by omega)
  rw [h2] at this
  exact hu _ _ this h4
/-- entries of a span -/
structure Span {α : Type} (lt : α → α → Bool) (lo hi : α → Bool) : Prop where
 up : ∀ {a b}, lt a b = true → lo a = true → lo b = true
 down : ∀ {a b}, lt a b = true → hi b = true → hi a = true
abbrev within {α : Type} (lo hi : α → Bool) (l : List α) : List α := l.filter (fun x => lo x && hi x)
abbrev to_ {α : Type} (hi : α → Bool) (l : List α) : Nat := from_ (fun x => !hi x) l
theorem Span.up' {α : Type} {lt : α → α → Bool} {lo hi : α → Bool} (s : Span lt lo hi) : Up lt (fun x => !hi x) := by
 intro a b h1 h2
 cases h3 : hi b
 ·show (!hi b) = true; rw [h3]; rfl
 ·simp [s.down h1 h3] at h2
/-- the entries of a node rise -/
theorem es_sub {α : Type} : ∀ (es : List α) (fs : List (List α)), es.length = fs.length → es.Sublist (post es fs)
 | [], [], _ => List.Sublist.refl _
 | e :: es, f :: fs, h => by
  have := es_sub es fs (by simpa using h)
  exact (this.trans (List.sublist_append_right f _)).cons_cons e
 | [], _ :: _, h => by simp at h
 | _ :: _, [], h => by simp at h
theorem es_rise {α : Type} {lt : α → α → Bool} {n : Nd α} (hn : n.ks = [] ∨ n.ks.length = n.es.length + 1) (hr : Rise lt n.fl) : Rise lt n.es := by
 rw [n.eta, Nd.fl_eq] at hr
 rcases hn with hn | hn
 ·rw [hn] at hr
  exact hr
 ·cases hk : n.ks with
  | nil => rw [hk] at hn; simp at hn
  | cons k ks =>
   rw [hk] at hr hn
   exact List.Pairwise.sublist ((es_sub n.es (ks.map Nd.fl) (by simp at hn ⊢; omega)).trans (List.sublist_append_right _ _)) hr
variable {α : Type} {lt : α → α → Bool} {lo hi : α → Bool}
theorem none_ahead (s : Span lt lo hi) {n : Nd α} {i : Nat} (hn : n.ks.length = n.es.length + 1) (hr : Rise lt (n.ahead i)) (hi' : i ≤ from_ lo n.es) : within lo hi (n.ahead i) = [] := by
 apply List.filter_eq_nil_iff.2
 intro x hx
 have hle := from_le lo n.es
 obtain ⟨y, hy, h0, h1⟩ := ahead_le hn (by omega) hr hx
 have hy' := from_ahead (p := lo) (by omega) hy
 have : lo x = false := by
  rcases h1 with h1 | h1
  ·cases hx : lo x
   ·rfl
   ·rw [s.up h1 hx] at hy'; exact hy'
  ·rw [h1]; exact hy'
 simp [this]
theorem none_behind (s : Span lt lo hi) {n : Nd α} {i : Nat} (hn : n.ks.length = n.es.length + 1) (hre : Rise lt n.es) (hr : Rise lt (n.behind (i + 1))) (hi' : to_ hi n.es ≤ i) : within lo hi (n.behind (i + 1)) = [] := by
 apply List.filter_eq_nil_iff.2
 intro x hx
 obtain ⟨y, hy, h1⟩ := behind_ge hn hr hx
 have hy' := from_behind s.up' hre hi' hy
 have hy' : hi y = false := by simpa using hy'
 have : hi x = false := by
  rcases h1 with h1 | h1
  ·cases hx : hi x
   ·rfl
   ·rw [s.down h1 hx] at hy'; exact hy'
  ·rw [h1]; exact hy'
 simp [this]
/-- an entry from the one place up to the other is in the span -/
theorem in_span (s : Span lt lo hi) {l : List α} (hr : Rise lt l) {i : Nat} {y : α} (h1 : from_ lo l ≤ i) (h2 : i < to_ hi l) (h : l[i]? = some y) : (lo y && hi y) = true := by
 have h3 := from_behind (p := lo) (fun _ _ h1 h2 => s.up h1 h2) hr h1 h
 have h4 := from_ahead h2 h
 simp at h4
 simp [h3, h4]
/-- the first place is behind the other: there is none -/
theorem span_none (s : Span lt lo hi) {n : Nd α} {d l h : Nat} (hw : n.wf d l h) (hr : Rise lt n.fl) (hc : to_ hi n.es < from_ lo n.es) : within lo hi n.fl = [] := by
 have hf := from_le lo n.es
 have ht : to_ hi n.es < n.es.length := by omega
 have hy : n.es[to_ hi n.es]? = some (n.es[to_ hi n.es]'ht) := List.getElem?_eq_getElem ht
 generalize n.es[to_ hi n.es]'ht = y at hy
 have h1 := from_ahead hc hy
 have h2 := from_at hy
 have h2 : hi y = false := by simpa using h2
 have hm : y ∈ n.fl := by
  have := List.mem_of_getElem? hy
  cases d with
  | zero => rw [fl_zero hw]; exact this
  | succ d =>
   have hn := wf_klen hw
   rw [n.eta, Nd.fl_eq]
   cases hk : n.ks with
   | nil => rw [hk] at hn; simp at hn
   | cons k ks =>
    rw [hk] at hn
    exact List.mem_append_right _ ((es_sub n.es (ks.map Nd.fl) (by simp at hn ⊢; omega)).subset this)
 obtain ⟨a, b, e⟩ := List.append_of_mem hm
 rw [e] at hr ⊢
 obtain ⟨_, r2, r3⟩ := List.pairwise_append.1 hr
 obtain ⟨r4, _⟩ := List.pairwise_cons.1 r2
 apply List.filter_eq_nil_iff.2
 intro x hx
 rcases List.mem_append.1 hx with hx | hx
 ·have : lo x = false := by
   cases hl : lo x
   ·rfl
   ·rw [s.up (r3 x hx y (by simp)) hl] at h1; exact h1
  simp [this]
 ·have : hi x = false := by
   rcases List.mem_cons.1 hx with hx | hx
   ·rw [hx]; exact h2
   ·cases hl : hi x
    ·rfl
    ·rw [s.down (r4 x hx) hl] at h2; exact h2
  simp [this]
/-- what is left going up from kid i on; what is left going down from kid i on -/
def Nd.rest (lo hi : α → Bool) (n : Nd α) (i : Nat) : List α := within lo hi ((match n.ks[i]? with | some k => k.fl | none => []) ++ n.behind (i + 1))
def Nd.rest' (lo hi : α → Bool) (n : Nd α) (i : Nat) : List α := within lo hi (n.ahead i ++ (match n.ks[i]? with | some k => k.fl | none => []))
theorem rise_parts {n k : Nd α} {i : Nat} (hn : n.ks.length = n.es.length + 1) (hr : Rise lt n.fl) (hk : n.ks[i]? = some k) : Rise lt (n.ahead i) ∧ Rise lt k.fl ∧ Rise lt (n.behind (i + 1)) := by
 rw [fl_part hn hk] at hr
 obtain ⟨r1, r2, _⟩ := List.pairwise_append.1 hr
 obtain ⟨r3, r4, _⟩ := List.pairwise_append.1 r2
 exact ⟨r1, r3, r4⟩
theorem up_begin (s : Span lt lo hi) {n k : Nd α} (hn : n.ks.length = n.es.length + 1) (hr : Rise lt n.fl) (hk : n.ks[from_ lo n.es]? = some k) : within lo hi n.fl = n.rest lo hi (from_ lo n.es) := by
 obtain ⟨r1, _, _⟩ := rise_parts hn hr hk
 have h := none_ahead s hn r1 (Nat.le_refl _)
 unfold Nd.rest
 rw [hk, fl_part hn hk, within, List.filter_append, ← within, h]
 rfl
theorem up_step (s : Span lt lo hi) {n k : Nd α} {i : Nat} {e : α} (hn : n.ks.length = n.es.length + 1) (hr : Rise lt n.fl) (hk : n.ks[i]? = some k) (he : n.es[i]? = some e) (h1 : from_ lo n.es ≤ i) (h2 : i < to_ hi n.es) : n.rest lo hi i = within lo hi k.fl ++ e :: n.rest lo hi (i + 1) := by
 obtain ⟨hi1, _⟩ := List.getElem?_eq_some_iff.1 he
 have hk2 : n.ks[i + 1]? = some (n.ks[i + 1]'(by omega)) := List.getElem?_eq_getElem (by omega)
 generalize n.ks[i + 1]'(by omega) = k2 at hk2
 have hp := in_span s (es_rise (Or.inr hn) hr) h1 h2 he
 unfold Nd.rest
 rw [hk, hk2, behind_succ hk2 he]
 simp only [within, List.filter_append, List.filter_cons, hp, if_true]
theorem up_end (s : Span lt lo hi) {n k : Nd α} (hn : n.ks.length = n.es.length + 1) (hr : Rise lt n.fl) (hk : n.ks[to_ hi n.es]? = some k) : n.rest lo hi (to_ hi n.es) = within lo hi k.fl := by
 obtain ⟨_, _, r3⟩ := rise_parts hn hr hk
 have h := none_behind s hn (es_rise (Or.inr hn) hr) r3 (Nat.le_refl _)
 unfold Nd.rest
 rw [hk, within, List.filter_append, ← within, ← within, h]
 exact List.append_nil _
theorem down_begin (s : Span lt lo hi) {n k : Nd α} (hn : n.ks.length = n.es.length + 1) (hr : Rise lt n.fl) (hk : n.ks[to_ hi n.es]? = some k) : within lo hi n.fl = n.rest' lo hi (to_ hi n.es) := by
 obtain ⟨_, _, r3⟩ := rise_parts hn hr hk
 have h := none_behind s hn (es_rise (Or.inr hn) hr) r3 (Nat.le_refl _)
 unfold Nd.rest'
 rw [hk, fl_part hn hk, ← List.append_assoc, within, List.filter_append, ← within, ← within, h, List.append_nil]
theorem down_step (s : Span lt lo hi) {n k : Nd α} {i : Nat} {e : α} (hn : n.ks.length = n.es.length + 1) (hr : Rise lt n.fl) (hk : n.ks[i + 1]? = some k) (he : n.es[i]? = some e) (h1 : from_ lo n.es ≤ i) (h2 : i < to_ hi n.es) : n.rest' lo hi (i + 1) = n.rest' lo hi i ++ e :: within lo hi k.fl := by
 obtain ⟨hi1, _⟩ := List.getElem?_eq_some_iff.1 he
 have hk2 : n.ks[i]? = some (n.ks[i]'(by omega)) := List.getElem?_eq_getElem (by omega)
 generalize n.ks[i]'(by omega) = k2 at hk2
 have hp := in_span s (es_rise (Or.inr hn) hr) h1 h2 he
 unfold Nd.rest'
 rw [hk, hk2, ahead_succ hk2 he]
 simp [within, List.filter_append, hp]
theorem down_end (s : Span lt lo hi) {n k : Nd α} (hn : n.ks.length = n.es.length + 1) (hr : Rise lt n.fl) (hk : n.ks[from_ lo n.es]? = some k) : n.rest' lo hi (from_ lo n.es) = within lo hi k.fl := by
 obtain ⟨r1, _, _⟩ := rise_parts hn hr hk
 have h := none_ahead s hn r1 (Nat.le_refl _)
 unfold Nd.rest'
 rw [hk, within, List.filter_append, ← within, h]
 rfl
/-- in a leaf -/
theorem leaf_ahead {l : List α} {i : Nat} (hi' : i ≤ from_ lo l) : within lo hi (l.take i) = [] := by
 apply List.filter_eq_nil_iff.2
 intro x hx
 obtain ⟨j, hj⟩ := List.getElem?_of_mem hx
 have hji : j < i := by
  have := (List.getElem?_eq_some_iff.1 hj).1
  simp at this
  omega
 rw [List.getElem?_take_of_lt hji] at hj
 simp [from_ahead (p := lo) (by omega) hj]
theorem leaf_behind (s : Span lt lo hi) {l : List α} (hr : Rise lt l) {i : Nat} (hi' : to_ hi l ≤ i) : within lo hi (l.drop i) = [] := by
 apply List.filter_eq_nil_iff.2
 intro x hx
 obtain ⟨j, hj⟩ := List.getElem?_of_mem hx
 rw [List.getElem?_drop] at hj
 have := from_behind s.up' hr (i := i + j) (Nat.le_trans hi' (by omega)) hj
 have : hi x = false := by simpa using this
 simp [this]
theorem leaf_begin {l : List α} : within lo hi l = within lo hi (l.drop (from_ lo l)) := by
 conv => lhs; rw [← List.take_append_drop (from_ lo l) l]
 rw [within, List.filter_append, ← within, leaf_ahead (Nat.le_refl _)]
 rfl
theorem leaf_step (s : Span lt lo hi) {l : List α} (hr : Rise lt l) {i : Nat} {e : α} (he : l[i]? = some e) (h1 : from_ lo l ≤ i) (h2 : i < to_ hi l) : within lo hi (l.drop i) = e :: within lo hi (l.drop (i + 1)) := by
 obtain ⟨hi1, hi2⟩ := List.getElem?_eq_some_iff.1 he
 have hp := in_span s hr h1 h2 he
 rw [List.drop_eq_getElem_cons hi1, hi2, within, List.filter_cons, if_pos hp]
theorem leaf_begin' (s : Span lt lo hi) {l : List α} (hr : Rise lt l) : within lo hi l = within lo hi (l.take (to_ hi l)) := by
 conv => lhs; rw [← List.take_append_drop (to_ hi l) l]
 rw [within, List.filter_append, ← within, ← within, leaf_behind s hr (Nat.le_refl _), List.append_nil]
theorem leaf_step' (s : Span lt lo hi) {l : List α} (hr : Rise lt l) {i : Nat} {e : α} (he : l[i]? = some e) (h1 : from_ lo l ≤ i) (h2 : i < to_ hi l) : within lo hi (l.take (i + 1)) = within lo hi (l.take i) ++ [e] := by
 have hp := in_span s hr h1 h2 he
 rw [List.take_add_one, he, within, List.filter_append]
 simp [hp]
end Go.Proofs.YtclcajnodoifjaaGreatDoor

namespace Go.Proofs.YtclcajnodoifjaaGreatDoor
open Go.RowKit

def repl (l : List UInt8) : Bool := l.take 3 == [239, 191, 189]

theorem u8_of_nat {a : UInt8} {n : Nat} (h : a.toNat = n) (hn : n < 256) : a = UInt8.ofNat n := by
 apply UInt8.toNat_inj.1; rw [h]; simp; omega

theorem repl_of : ∀ (l : List UInt8), 3 ≤ l.length → (l.getD 0 0).toNat = 239 → (l.getD 1 0).toNat = 191 → (l.getD 2 0).toNat = 189 → repl l = true
 | a :: b :: c :: l', _, e0, e1, e2 => by
  have ea : a = 239 := u8_of_nat (n := 239) e0 (by decide)
  have eb : b = 191 := u8_of_nat (n := 191) e1 (by decide)
  have ec : c = 189 := u8_of_nat (n := 189) e2 (by decide)
  subst ea eb ec
  rfl

theorem decode_bad (l : List UInt8) (h : (Lib.decodeL l).1 = 65533) (hr : repl l = false) : (Lib.decodeL l).2 = 1 := by
 rw [Lib.decodeL_N] at h ⊢
 have g0 := (l.getD 0 0).toNat_lt; have g1 := (l.getD 1 0).toNat_lt; have g2 := (l.getD 2 0).toNat_lt
 unfold Lib.decodeN at h ⊢
 by_cases h1 : (l.getD 0 0).toNat < 128
 ·rw [if_pos h1] at h ⊢
 rw [if_neg h1] at h ⊢
 split at h
 ·rename_i hc
  rw [if_pos hc]
  split at h
  ·simp only at h; omega
  ·rename_i hv; rw [if_neg hv]
 ·rename_i hc
  rw [if_neg hc]
  split at h
  ·rename_i hc2
   rw [if_pos hc2]
   split at h
   ·rename_i hv
    simp only at h
    exfalso
    have e0 : (l.getD 0 0).toNat = 239 := by omega
    have e1 : (l.getD 1 0).toNat = 191 := by omega
    have e2 : (l.getD 2 0).toNat = 189 := by omega
    have hl : 3 ≤ l.length := by omega
    rw [repl_of l hl e0 e1 e2] at hr; cases hr
   ·rename_i hv; rw [if_neg hv]
  ·rename_i hc2
   rw [if_neg hc2]
   split at h
   ·rename_i hc3
    rw [if_pos hc3]
    split at h
    ·rename_i hv; simp only at h; exfalso; omega
    ·rename_i hv; rw [if_neg hv]
   ·rename_i hc3; rw [if_neg hc3]
theorem decode_repl (l : List UInt8) (hr : repl l = true) : Lib.decodeL l = (65533, 3) := by
 have h : l.take 3 = [239, 191, 189] := by simpa [repl] using hr
 match l with
 | [] => simp at h
 | [a] => simp at h
 | [a, b] => simp at h
 | a :: b :: c :: l' =>
  simp at h
  obtain ⟨rfl, rfl, rfl⟩ := h
  rw [Lib.decodeL_N]
  simp only [List.getD_cons_zero, List.getD_cons_succ, Lib.decodeN, List.length_cons]
  simp

theorem extract_repl (s : ByteArray) (pos : Nat) : ((s.extract pos (pos + 3)).toList == [239, 191, 189]) = repl (s.data.toList.drop pos) := by
 rw [Lib.toList_data, Lib.extract_data, Nat.add_sub_cancel_left]; rfl

theorem valid_at (s : ByteArray) (pos : Nat) (h : pos < s.size) (hv : ¬ (Utf8.decode s pos).1 = 65533 ∨ repl (s.data.toList.drop pos) = true) : Lib.validD (s.data.toList.drop pos) = Lib.validD (s.data.toList.drop (pos + (Utf8.decode s pos).2)) := by
 have hne : s.data.toList.drop pos ≠ [] := by
  intro e; have := congrArg List.length e; simp at this; have : s.data.size = s.size := rfl; omega
 rw [Lib.validD_step _ hne, Lib.decodeL_drop, List.drop_drop, if_neg]
 rintro ⟨h1, h2⟩
 rcases hv with hv | hv
 ·exact hv h1
 ·have := decode_repl _ hv; rw [Lib.decodeL_drop] at this; rw [this] at h2; simp at h2
theorem valid_not (s : ByteArray) (pos : Nat) (h : pos < s.size) (h1 : (Utf8.decode s pos).1 = 65533) (hr : repl (s.data.toList.drop pos) = false) : Lib.validD (s.data.toList.drop pos) = false := by
 have hne : s.data.toList.drop pos ≠ [] := by
  intro e; have := congrArg List.length e; simp at this; have : s.data.size = s.size := rfl; omega
 have h2 := decode_bad _ (by rw [Lib.decodeL_drop]; exact h1) hr
 rw [Lib.validD_step _ hne, if_pos ⟨by rw [Lib.decodeL_drop]; exact h1, h2⟩]
theorem width_pos' (s : ByteArray) (pos : Nat) (h : pos < s.size) : 1 ≤ (Utf8.decode s pos).2 := by
 by_cases ha : (s[pos]'h).toNat < 128
 ·rw [decode_ascii s pos h ha]; exact Nat.le_refl _
 ·exact (decode_high s pos h (by omega)).2

set_option maxHeartbeats 1000000 in
set_option maxRecDepth 1000000 in
theorem valid_any (s : ByteArray) (w : World) (hs : s.size ≤ 4096) :
  Calls Tryz.prog 60 #[.string s] w fun e w' => e = .returned (.bool (Lib.validD s.data.toList)) ∧ Below w.heap.size w w' := by
 obtain ⟨V, hV⟩ : ∃ V, V = Lib.validD s.data.toList := ⟨_, rfl⟩
 rw [← hV]
 have HV : Hid (V = Lib.validD s.data.toList) := hV
 clear hV
 go_enter Tryz.func60, Tryz.ntmps60
 go_wp2
 go_loopw [] (fun wr => ∃ pos : Nat, wr.heap[w.heap.size]? = some (.stringIter s pos) ∧ Below w.heap.size w wr ∧ Hid (V = Lib.validD (s.data.toList.drop pos)))
  (fun wr => s.size - wr.iterPos (w.heap.size))
 case atStart =>
  refine ⟨0, ?_, (Below.refl _ w).alloc (Nat.le_refl _) _, HV⟩
  have := World.iter_heap w s 0
  simpa using this
 case round =>
  obtain ⟨pos, hit, hbw, hv⟩ := hrel
  clear HV
  have hsz : w.heap.size < wr.heap.size := (Array.getElem?_eq_some_iff.1 hit).1
  by_cases hp : pos < s.size
  ·have hnx : ∀ ty, (Instr.next (.pointer (some ⟨w.heap.size, 0, none⟩)) true ty).run Tryz.prog wr = _ := fun ty => Lib.run_next_any_at wr (w.heap.size) s pos ty hit hp
   have hwd := width_pos' s pos hp
   have hit2 := Lib.iterAt_heap wr (w.heap.size) s pos (pos + (Utf8.decode s pos).2) hit
   have hbw2 := Lib.below_iterAt hbw (k := w.heap.size) (by omega) s (pos + (Utf8.decode s pos).2)
   by_cases hr : (Utf8.decode s pos).1 = 65533
   ·have br : (((Utf8.decode s pos).1 : Int) == 65533) = true := by rw [beq_iff_eq]; omega
    by_cases hl : s.size - pos < 3
    ·have hbad := valid_not s pos hp hr (by
      simp only [repl, beq_eq_false_iff_ne]; intro e; have := congrArg List.length e; simp at this; have : s.data.size = s.size := rfl; omega)
     rw [hbad] at hv
     obtain rfl := hv.out
     clear hr
     go_wp2_with fail
     go_ret
     exact ⟨rfl, hbw2⟩
    ·cases hx : repl (s.data.toList.drop pos)
     ·have hbad := valid_not s pos hp hr hx
      rw [hbad] at hv
      obtain rfl := hv.out
      have hxx := (extract_repl s pos).trans hx
      clear hr hx hbad
      go_wp2_with fail
      go_ret
      exact ⟨rfl, hbw2⟩
     ·have hv2 : Hid (V = Lib.validD (s.data.toList.drop (pos + (Utf8.decode s pos).2))) := by show _ = _; rw [← valid_at s pos hp (Or.inr hx)]; exact hv.out
      have hxx := (extract_repl s pos).trans hx
      clear hr hv hx
      go_wp2_with fail
      go_roundw
      case rel => exact ⟨_, hit2, hbw2, hv2⟩
      case measure =>
       simp only [World.iterPos, hit2, hit]
       omega
   ·have br : (((Utf8.decode s pos).1 : Int) == 65533) = false := by rw [beq_eq_false_iff_ne]; omega
    have hv2 : Hid (V = Lib.validD (s.data.toList.drop (pos + (Utf8.decode s pos).2))) := by show _ = _; rw [← valid_at s pos hp (Or.inl hr)]; exact hv.out
    clear hr hv
    go_wp2_with fail
    go_roundw
    case rel => exact ⟨_, hit2, hbw2, hv2⟩
    case measure =>
     simp only [World.iterPos, hit2, hit]
     omega
  ·have hnx : ∀ ty, (Instr.next (.pointer (some ⟨w.heap.size, 0, none⟩)) true ty).run Tryz.prog wr = _ := fun ty => Lib.run_next_end_at wr (w.heap.size) s pos ty hit hp
   have h := hv.out
   rw [List.drop_eq_nil_of_le (by have : s.data.size = s.size := rfl; simp; omega), Lib.validD_nil] at h
   subst h
   go_wp2_with fail
   go_ret
   exact ⟨rfl, hbw⟩
end Go.Proofs.YtclcajnodoifjaaGreatDoor

namespace Go.Proofs.YtclcajnodoifjaaGreatDoor
open Go.RowKit Go.Shelf

def Tabs (w : World) : Prop := Lib.Utf8Tabs (Tryz.laysValid_ren.g 3) (Tryz.laysValid_ren.g 4) w
theorem Tabs.below {w w' : World} (h : Tabs w) (hb : Below w.heap.size w w') : Tabs w' := Utf8Tabs_below h hb

/-- what is wrong with a text: 2 too long, 3 no UTF-8, else 0 -/
def chkT (s : ByteArray) : Int := if 4096 < s.size then 2 else if Lib.validD s.data.toList = true then 0 else 3
theorem chkT_long {s : ByteArray} (h : 4096 < s.size) : chkT s = 2 := by rw [chkT, if_pos h]
theorem chkT_ok {s : ByteArray} (h : ¬ 4096 < s.size) (hv : Lib.validD s.data.toList = true) : chkT s = 0 := by rw [chkT, if_neg h, if_pos hv]
theorem chkT_bad {s : ByteArray} (h : ¬ 4096 < s.size) (hv : Lib.validD s.data.toList = false) : chkT s = 3 := by rw [chkT, if_neg h, if_neg (by simp [hv])]
theorem chkT_zero {s : ByteArray} (h : chkT s = 0) : s.size ≤ 4096 ∧ Lib.validD s.data.toList = true := by
 by_cases h1 : 4096 < s.size
 ·rw [chkT_long h1] at h; omega
 ·cases hv : Lib.validD s.data.toList
  ·rw [chkT_bad h1 hv] at h; omega
  ·exact ⟨by omega, rfl⟩
/-- what is wrong with a value: 1 none such, else its text's -/
def chk (ty n : Int) (s : ByteArray) : Int := if ty < 0 ∨ 4 < ty ∨ (ty = 4 ∧ n ≠ 0 ∧ n ≠ 1) then 1 else if ty = 3 then chkT s else 0
theorem chk_text (n : Int) (s : ByteArray) : chk 3 n s = chkT s := by
 rw [chk, if_neg (by omega), if_pos rfl]

set_option maxHeartbeats 1000000 in
theorem checkText_any (s : ByteArray) (w : World) (hs : s.size ≤ 9223372036854775807) (hT : Tabs w) :
  Calls Tryz.prog 71 #[.string s] w fun e w' => e = .returned (.int .i64 (chkT s)) ∧ Below w.heap.size w w' := by
 have cV : Calls Tryz.prog 87 #[.string s] w _ := Any.utf8_ValidString Tryz.laysValid s w hs hT
 by_cases h : 4096 < s.size
 ·rw [chkT_long h]
  clear cV
  go_enter Tryz.func71, Tryz.ntmps71
  go_wp2
  go_ret
  exact ⟨rfl, Below.refl _ _⟩
 ·cases hv : Lib.validD s.data.toList
  ·rw [chkT_bad h hv]
   rw [hv] at cV
   clear hv
   go_enter Tryz.func71, Tryz.ntmps71
   go_wp2_with (go_at_call 87; refine cV.mono ?_; rintro e w' ⟨rfl, hb⟩)
   go_ret
   exact ⟨rfl, hb⟩
  ·rw [chkT_ok h hv]
   rw [hv] at cV
   clear hv
   go_enter Tryz.func71, Tryz.ntmps71
   go_wp2_with (go_at_call 87; refine cV.mono ?_; rintro e w' ⟨rfl, hb⟩)
   go_ret
   exact ⟨rfl, hb⟩

set_option maxHeartbeats 1000000 in
theorem refCheck_any (ty n : Int) (s : ByteArray) (w : World) :
  Calls Tryz.prog 34 #[.agg #[.int .i64 ty, .int .i64 n, .string s]] w fun e w' => e = .returned (.int .i64 (chk ty n s)) ∧ Below w.heap.size w w' := by
 have hb1 : ∀ o, Below w.heap.size w (w.alloc o) := fun o => (Below.refl _ w).alloc (Nat.le_refl _) o
 by_cases h0 : ty < 0
 ·rw [chk, if_pos (by omega)]
  go_enter Tryz.func34, Tryz.ntmps34
  go_wp2
  go_ret
  exact ⟨rfl, hb1 _⟩
 by_cases h4 : 4 < ty
 ·rw [chk, if_pos (by omega)]
  go_enter Tryz.func34, Tryz.ntmps34
  go_wp2
  go_ret
  exact ⟨rfl, hb1 _⟩
 by_cases h3 : ty = 3
 ·subst h3
  rw [chk_text]
  by_cases h : 4096 < s.size
  ·rw [chkT_long h]
   go_enter Tryz.func34, Tryz.ntmps34
   go_wp2
   go_ret
   exact ⟨rfl, hb1 _⟩
  ·cases hv : Lib.validD s.data.toList
   ·rw [chkT_bad h hv]
    go_enter Tryz.func34, Tryz.ntmps34
    go_wp2_with (go_at_call 60; refine (valid_any s _ (by omega)).mono ?_; rintro e w' ⟨rfl, hb⟩)
    go_ret
    exact ⟨rfl, (hb1 _).trans (hb.mono (by simp))⟩
   ·rw [chkT_ok h hv]
    go_enter Tryz.func34, Tryz.ntmps34
    go_wp2_with (go_at_call 60; refine (valid_any s _ (by omega)).mono ?_; rintro e w' ⟨rfl, hb⟩)
    go_ret
    exact ⟨rfl, (hb1 _).trans (hb.mono (by simp))⟩
 have b3 : (ty == 3) = false := by rw [beq_eq_false_iff_ne]; exact h3
 by_cases h5 : ty = 4
 ·subst h5
  by_cases hn0 : n = 0
  ·subst hn0
   rw [chk, if_neg (by omega), if_neg (by omega)]
   go_enter Tryz.func34, Tryz.ntmps34
   go_wp2
   go_ret
   exact ⟨rfl, hb1 _⟩
  by_cases hn1 : n = 1
  ·subst hn1
   rw [chk, if_neg (by omega), if_neg (by omega)]
   go_enter Tryz.func34, Tryz.ntmps34
   go_wp2
   go_ret
   exact ⟨rfl, hb1 _⟩
  rw [chk, if_pos (by omega)]
  have e0 : (n != 0) = true := by rw [bne_iff_ne]; exact hn0
  have e1 : (n != 1) = true := by rw [bne_iff_ne]; exact hn1
  go_enter Tryz.func34, Tryz.ntmps34
  go_wp2
  go_ret
  exact ⟨rfl, hb1 _⟩
 rw [chk, if_neg (by omega), if_neg h3]
 have b4 : (ty == 4) = false := by rw [beq_eq_false_iff_ne]; exact h5
 go_enter Tryz.func34, Tryz.ntmps34
 go_wp2
 go_ret
 exact ⟨rfl, hb1 _⟩

end Go.Proofs.YtclcajnodoifjaaGreatDoor

