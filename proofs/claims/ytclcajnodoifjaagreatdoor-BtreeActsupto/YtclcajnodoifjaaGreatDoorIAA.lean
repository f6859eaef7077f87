/-
 Trees of entries as plain data: what is put in, dropped, and gone through, in order.
-/
import Derived.WalkKit
namespace Go.Proofs.YtclcajnodoifjaaGreatDoor
set_option maxRecDepth 100000

/-- a node: its entries, its kids -/
inductive Nd (α : Type) where
 | mk (es : List α) (ks : List (Nd α))
def Nd.es {α : Type} : Nd α → List α
 | .mk es _ => es
def Nd.ks {α : Type} : Nd α → List (Nd α)
 | .mk _ ks => ks
/-- lists ahead of entries: each list, then its entry -/
def pre {α : Type} : List α → List (List α) → List α
 | e :: es, f :: fs => f ++ e :: pre es fs
 | _, _ => []
/-- lists behind entries: each entry, then its list -/
def post {α : Type} : List α → List (List α) → List α
 | e :: es, f :: fs => e :: (f ++ post es fs)
 | _, _ => []
/-- entries with lists ahead of each and behind the last -/
def il {α : Type} : List α → List (List α) → List α
 | es, f :: fs => f ++ post es fs
 | es, [] => es
theorem pre_app {α : Type} : ∀ (a : List α) (x : List (List α)) (b : List α) (y : List (List α)), a.length = x.length → pre (a ++ b) (x ++ y) = pre a x ++ pre b y
 | [], [], b, y, _ => rfl
 | e :: a, f :: x, b, y, h => by
  simp only [List.cons_append, pre, List.append_assoc]
  rw [pre_app a x b y (by simpa using h)]
 | [], _ :: _, _, _, h => by simp at h
 | _ :: _, [], _, _, h => by simp at h
theorem post_app {α : Type} : ∀ (a : List α) (x : List (List α)) (b : List α) (y : List (List α)), a.length = x.length → post (a ++ b) (x ++ y) = post a x ++ post b y
 | [], [], b, y, _ => rfl
 | e :: a, f :: x, b, y, h => by
  simp only [List.cons_append, post, List.append_assoc]
  rw [post_app a x b y (by simpa using h)]
 | [], _ :: _, _, _, h => by simp at h
 | _ :: _, [], _, _, h => by simp at h
/-- a list, then what is behind it: the same as what is ahead, then the last list -/
theorem pre_post {α : Type} : ∀ (es : List α) (f : List α) (fs : List (List α)) (g : List α), es.length = fs.length + 1 → f ++ post es (fs ++ [g]) = pre es (f :: fs) ++ g
 | [e], f, [], g, _ => by simp [post, pre]
 | e :: e2 :: es, f, h :: fs, g, hl => by
  have := pre_post (e2 :: es) h fs g (by simpa using hl)
  simp only [List.cons_append, post, pre, List.append_assoc] at this ⊢
  rw [← this]
 | [], _, _, _, h => by simp at h
 | [_], _, _ :: _, _, h => by simp at h
 | _ :: _ :: _, _, [], _, h => by simp at h
/-- taken apart at a list -/
theorem il_at {α : Type} (a : List α) (x : List (List α)) (f : List α) (b : List α) (y : List (List α)) (ha : a.length = x.length) : il (a ++ b) (x ++ f :: y) = pre a x ++ (f ++ post b y) := by
 cases x with
 | nil =>
  have : a = [] := List.eq_nil_of_length_eq_zero ha
  subst this
  rfl
 | cons g x =>
  show g ++ post (a ++ b) (x ++ f :: y) = _
  have e : x ++ f :: y = (x ++ [f]) ++ y := by simp
  rw [e, post_app a (x ++ [f]) b y (by simp at ha ⊢; omega), ← List.append_assoc, pre_post a g x f (by simpa using ha), List.append_assoc]
/-- taken apart at two lists and the entry between them -/
theorem il_at2 {α : Type} (a : List α) (x : List (List α)) (f : List α) (e : α) (g : List α) (b : List α) (y : List (List α)) (ha : a.length = x.length) : il (a ++ e :: b) (x ++ f :: g :: y) = pre a x ++ ((f ++ e :: g) ++ post b y) := by
 rw [il_at a x f (e :: b) (g :: y) ha]
 simp [post]
mutual
/-- all entries of a node, in order -/
def Nd.fl {α : Type} : Nd α → List α
 | .mk es ks => il es (flK ks)
def flK {α : Type} : List (Nd α) → List (List α)
 | [] => []
 | k :: ks => k.fl :: flK ks
end
theorem flK_map {α : Type} : ∀ ks : List (Nd α), flK ks = ks.map Nd.fl
 | [] => by simp [flK]
 | k :: ks => by simp [flK, flK_map ks]
theorem Nd.fl_eq {α : Type} (es : List α) (ks : List (Nd α)) : (Nd.mk es ks).fl = il es (ks.map Nd.fl) := by rw [Nd.fl, flK_map]
theorem fl_leaf {α : Type} (es : List α) : (Nd.mk es []).fl = es := by rw [Nd.fl_eq]; rfl
/-- how a tree is built: d levels of kids below; a node has lo to hi entries, its kids 8 to 16 -/
def Nd.wf {α : Type} : Nat → Nat → Nat → Nd α → Prop
 | 0, lo, hi, .mk es ks => ks = [] ∧ lo ≤ es.length ∧ es.length ≤ hi
 | d + 1, lo, hi, .mk es ks => ks.length = es.length + 1 ∧ lo ≤ es.length ∧ es.length ≤ hi ∧ ∀ k ∈ ks, Nd.wf d 8 16 k
theorem cut_fl {α : Type} {es : List α} {ks : List (Nd α)} {i : Nat} {m : α} (hm : es[i]? = some m) (hk : ks = [] ∨ ks.length = es.length + 1) : (Nd.mk es ks).fl = (Nd.mk (es.take i) (ks.take (i + 1))).fl ++ m :: (Nd.mk (es.drop (i + 1)) (ks.drop (i + 1))).fl := by
 obtain ⟨hi, em⟩ := List.getElem?_eq_some_iff.1 hm
 have hes : es = es.take i ++ m :: es.drop (i + 1) := by
  rw [← em]; simp
 rcases hk with rfl | hk
 ·simp only [List.take_nil, List.drop_nil, fl_leaf]
  exact hes
 ·rw [Nd.fl_eq, Nd.fl_eq, Nd.fl_eq]
  have h1 : i < ks.length := by omega
  have h2 : i + 1 < ks.length := by omega
  have hks : ks = ks.take i ++ ks[i] :: ks[i + 1] :: ks.drop (i + 2) := by
   rw [← List.drop_eq_getElem_cons h2, ← List.drop_eq_getElem_cons h1, List.take_append_drop]
  have ht : ks.take (i + 1) = ks.take i ++ [ks[i]] := by rw [List.take_add_one, List.getElem?_eq_getElem h1]; rfl
  have hd : ks.drop (i + 1) = ks[i + 1] :: ks.drop (i + 2) := List.drop_eq_getElem_cons h2
  have e1 : il es (ks.map Nd.fl) = il (es.take i ++ m :: es.drop (i + 1)) ((ks.take i).map Nd.fl ++ ks[i].fl :: ks[i + 1].fl :: (ks.drop (i + 2)).map Nd.fl) := by
   rw [← hes]
   congr 1
   have := congrArg (List.map Nd.fl) hks
   simpa only [List.map_append, List.map_cons] using this
  rw [e1, il_at2 _ _ _ _ _ _ _ (by simp; omega), ht, hd]
  have e2 := il_at (es.take i) ((ks.take i).map Nd.fl) ks[i].fl [] [] (by simp; omega)
  rw [List.append_nil] at e2
  simp only [List.map_append, List.map_cons, List.map_nil]
  rw [e2]
  simp [il, post]
end Go.Proofs.YtclcajnodoifjaaGreatDoor

namespace Go.Proofs.YtclcajnodoifjaaGreatDoor
set_option maxRecDepth 100000

/-- both halves of a node, and the entry between -/
def Nd.halves {α : Type} (n : Nd α) : Option (Nd α × α × Nd α) :=
 match n.es[n.es.length / 2]? with
 | none => none
 | some m => some (.mk (n.es.take (n.es.length / 2)) (n.ks.take (n.es.length / 2 + 1)), m, .mk (n.es.drop (n.es.length / 2 + 1)) (n.ks.drop (n.es.length / 2 + 1)))
/-- one kid for those from a place up to another -/
def Nd.with1 {α : Type} (n : Nd α) (f t : Nat) (kid : Nd α) : Nd α :=
 .mk (n.es.take f ++ n.es.drop (t - 1)) (n.ks.take f ++ kid :: n.ks.drop t)
def Nd.with2 {α : Type} (n : Nd α) (f t : Nat) (l : Nd α) (m : α) (r : Nd α) : Nd α :=
 .mk (n.es.take f ++ m :: n.es.drop (t - 1)) (n.ks.take f ++ l :: r :: n.ks.drop t)
def Nd.withK {α : Type} (n : Nd α) (f t : Nat) (kid : Nd α) : Nd α :=
 if 16 < kid.es.length then
  match kid.halves with
  | some (l, m, r) => n.with2 f t l m r
  | none => n.with1 f t kid
 else n.with1 f t kid
def Nd.join {α : Type} (l : Nd α) (m : α) (r : Nd α) : Nd α := .mk (l.es ++ m :: r.es) (l.ks ++ r.ks)
theorem Nd.eta {α : Type} : ∀ n : Nd α, n = .mk n.es n.ks
 | .mk _ _ => rfl
theorem wf_kids {α : Type} {d lo hi : Nat} {n : Nd α} (h : n.wf d lo hi) : n.ks = [] ∨ n.ks.length = n.es.length + 1 := by
 cases n with
 | mk es ks =>
  cases d with
  | zero => exact Or.inl h.1
  | succ d => exact Or.inr h.1
theorem wf_len {α : Type} {d lo hi : Nat} {n : Nd α} (h : n.wf d lo hi) : lo ≤ n.es.length ∧ n.es.length ≤ hi := by
 cases n with
 | mk es ks =>
  cases d with
  | zero => exact h.2
  | succ d => exact ⟨h.2.1, h.2.2.1⟩
theorem wf_mono {α : Type} {d lo hi lo' hi' : Nat} {n : Nd α} (h : n.wf d lo hi) (h1 : lo' ≤ n.es.length) (h2 : n.es.length ≤ hi') : n.wf d lo' hi' := by
 cases n with
 | mk es ks =>
  cases d with
  | zero => exact ⟨h.1, h1, h2⟩
  | succ d => exact ⟨h.1, h1, h2, h.2.2.2⟩
theorem halves_some {α : Type} {d lo hi : Nat} {n : Nd α} (h : n.wf d lo hi) (h1 : 16 < n.es.length) (h2 : n.es.length ≤ 33) : ∃ l m r, n.halves = some (l, m, r) ∧ n.fl = l.fl ++ m :: r.fl ∧ l.wf d 8 16 ∧ r.wf d 8 16 := by
 have hl : n.es.length / 2 < n.es.length := by omega
 refine ⟨_, _, _, by unfold Nd.halves; rw [List.getElem?_eq_getElem hl], ?_, ?_, ?_⟩
 ·have := cut_fl (es := n.es) (ks := n.ks) (List.getElem?_eq_getElem hl) (wf_kids h)
  rw [← Nd.eta] at this
  exact this
 ·cases n with
  | mk es ks =>
   cases d with
   | zero =>
    simp only [Nd.es, Nd.ks] at *
    refine ⟨by rw [h.1]; simp, ?_, ?_⟩ <;> simp <;> omega
   | succ d =>
    obtain ⟨e1, _, _, e4⟩ := h
    simp only [Nd.es, Nd.ks] at *
    refine ⟨by simp; omega, by simp; omega, by simp; omega, fun k hk => e4 k (List.mem_of_mem_take hk)⟩
 ·cases n with
  | mk es ks =>
   cases d with
   | zero =>
    simp only [Nd.es, Nd.ks] at *
    refine ⟨by rw [h.1]; simp, ?_, ?_⟩ <;> simp <;> omega
   | succ d =>
    obtain ⟨e1, _, _, e4⟩ := h
    simp only [Nd.es, Nd.ks] at *
    refine ⟨by simp; omega, by simp; omega, by simp; omega, fun k hk => e4 k (List.mem_of_mem_drop hk)⟩
/-- what lies ahead of a kid, and behind one -/
def Nd.ahead {α : Type} (n : Nd α) (f : Nat) : List α := pre (n.es.take f) ((n.ks.take f).map Nd.fl)
def Nd.behind {α : Type} (n : Nd α) (t : Nat) : List α := post (n.es.drop (t - 1)) ((n.ks.drop t).map Nd.fl)
theorem with1_fl {α : Type} {n : Nd α} {f t : Nat} {kid : Nd α} (hk : n.ks.length = n.es.length + 1) (hf : f < t) (ht : t ≤ n.ks.length) : (n.with1 f t kid).fl = n.ahead f ++ (kid.fl ++ n.behind t) := by
 unfold Nd.with1 Nd.ahead Nd.behind
 rw [Nd.fl_eq, List.map_append, List.map_cons, il_at _ _ _ _ _ (by simp; omega)]
theorem with2_fl {α : Type} {n : Nd α} {f t : Nat} {l r : Nd α} {m : α} (hk : n.ks.length = n.es.length + 1) (hf : f < t) (ht : t ≤ n.ks.length) : (n.with2 f t l m r).fl = n.ahead f ++ ((l.fl ++ m :: r.fl) ++ n.behind t) := by
 unfold Nd.with2 Nd.ahead Nd.behind
 rw [Nd.fl_eq, List.map_append, List.map_cons, List.map_cons, il_at2 _ _ _ _ _ _ _ (by simp; omega)]
theorem with1_wf {α : Type} {d lo hi : Nat} {n : Nd α} {f t : Nat} {kid : Nd α} (h : n.wf (d + 1) lo hi) (hf : f < t) (ht : t ≤ n.ks.length) (hk : kid.wf d 8 16) {lo' hi' : Nat} (h1 : lo' ≤ f + (n.es.length - (t - 1))) (h2 : f + (n.es.length - (t - 1)) ≤ hi') : (n.with1 f t kid).wf (d + 1) lo' hi' := by
 cases n with
 | mk es ks =>
  obtain ⟨e1, _, _, e4⟩ := h
  simp only [Nd.es, Nd.ks] at *
  refine ⟨by simp [Nd.es, Nd.ks]; omega, by simp [Nd.es]; omega, by simp [Nd.es]; omega, fun k hk' => ?_⟩
  rcases List.mem_append.1 hk' with h | h
  ·exact e4 k (List.mem_of_mem_take h)
  ·rcases List.mem_cons.1 h with h | h
   ·rw [h]; exact hk
   ·exact e4 k (List.mem_of_mem_drop h)
theorem with2_wf {α : Type} {d lo hi : Nat} {n : Nd α} {f t : Nat} {l r : Nd α} {m : α} (h : n.wf (d + 1) lo hi) (hf : f < t) (ht : t ≤ n.ks.length) (hl : l.wf d 8 16) (hr : r.wf d 8 16) {lo' hi' : Nat} (h1 : lo' ≤ f + (n.es.length - (t - 1)) + 1) (h2 : f + (n.es.length - (t - 1)) + 1 ≤ hi') : (n.with2 f t l m r).wf (d + 1) lo' hi' := by
 cases n with
 | mk es ks =>
  obtain ⟨e1, _, _, e4⟩ := h
  simp only [Nd.es, Nd.ks] at *
  refine ⟨by simp [Nd.es, Nd.ks]; omega, by simp [Nd.es]; omega, by simp [Nd.es]; omega, fun k hk' => ?_⟩
  rcases List.mem_append.1 hk' with h | h
  ·exact e4 k (List.mem_of_mem_take h)
  ·rcases List.mem_cons.1 h with h | h
   ·rw [h]; exact hl
   ·rcases List.mem_cons.1 h with h | h
    ·rw [h]; exact hr
    ·exact e4 k (List.mem_of_mem_drop h)
theorem wf_klen {α : Type} {d lo hi : Nat} {n : Nd α} (h : n.wf (d + 1) lo hi) : n.ks.length = n.es.length + 1 := by
 cases n with
 | mk es ks => exact h.1
/-- another kid in a place: what lies in the node then, and how many entries it has -/
theorem withK_ok {α : Type} {d lo hi : Nat} {n : Nd α} {f t : Nat} {kid : Nd α} (h : n.wf (d + 1) lo hi) (hf : f < t) (ht : t ≤ n.ks.length) (hk : kid.wf d 8 33) : (n.withK f t kid).fl = n.ahead f ++ (kid.fl ++ n.behind t) ∧ (n.withK f t kid).wf (d + 1) (f + (n.es.length - (t - 1))) (f + (n.es.length - (t - 1)) + 1) := by
 have hl := wf_len hk
 have hn := wf_klen h
 unfold Nd.withK
 by_cases h16 : 16 < kid.es.length
 ·obtain ⟨l, m, r, e1, e2, e3, e4⟩ := halves_some hk h16 hl.2
  rw [if_pos h16, e1, e2]
  exact ⟨with2_fl hn hf ht, with2_wf h hf ht e3 e4 (by omega) (by omega)⟩
 ·rw [if_neg h16]
  exact ⟨with1_fl hn hf ht, with1_wf h hf ht (wf_mono hk (by omega) (by omega)) (by omega) (by omega)⟩
theorem mk_part {α : Type} {es : List α} {ks : List (Nd α)} {i : Nat} {k : Nd α} (h : ks[i]? = some k) : (Nd.mk es ks).with1 i (i + 1) k = Nd.mk es ks := by
 obtain ⟨h1, h2⟩ := List.getElem?_eq_some_iff.1 h
 show Nd.mk (es.take i ++ es.drop (i + 1 - 1)) (ks.take i ++ k :: ks.drop (i + 1)) = _
 rw [← h2, ← List.drop_eq_getElem_cons h1, List.take_append_drop, Nat.add_sub_cancel, List.take_append_drop]
theorem fl_part {α : Type} {n : Nd α} {i : Nat} {k : Nd α} (hn : n.ks.length = n.es.length + 1) (hi : n.ks[i]? = some k) : n.fl = n.ahead i ++ (k.fl ++ n.behind (i + 1)) := by
 obtain ⟨h1, _⟩ := List.getElem?_eq_some_iff.1 hi
 have e : n.with1 i (i + 1) k = n := by
  cases n with
  | mk es ks => exact mk_part hi
 rw [← with1_fl (kid := k) hn (by omega) (by omega), e]
theorem join_fl {α : Type} {d lo hi lo' hi' : Nat} {l r : Nd α} {m : α} (hl : l.wf d lo hi) (hr : r.wf d lo' hi') : (l.join m r).fl = l.fl ++ m :: r.fl := by
 have e := cut_fl (es := l.es ++ m :: r.es) (ks := l.ks ++ r.ks) (i := l.es.length) (m := m) (by simp) (by
  cases d with
  | zero =>
   left
   cases l; cases r
   simp only [Nd.ks] at *
   rw [hl.1, hr.1]; rfl
  | succ d =>
   right
   have := wf_klen hl
   have := wf_klen hr
   simp; omega)
 unfold Nd.join
 rw [e]
 have e1 : (l.es ++ m :: r.es).take l.es.length = l.es := by simp
 have e2 : (l.es ++ m :: r.es).drop (l.es.length + 1) = r.es := by simp
 have e3 : (l.ks ++ r.ks).take (l.es.length + 1) = l.ks ∧ (l.ks ++ r.ks).drop (l.es.length + 1) = r.ks := by
  cases d with
  | zero =>
   cases l; cases r
   simp only [Nd.ks] at *
   rw [hl.1, hr.1]; simp
  | succ d =>
   have := wf_klen hl
   rw [← this]
   simp
 rw [e1, e2, e3.1, e3.2, ← Nd.eta, ← Nd.eta]
theorem join_wf {α : Type} {d lo hi lo' hi' : Nat} {l r : Nd α} {m : α} (hl : l.wf d lo hi) (hr : r.wf d lo' hi') : (l.join m r).wf d (lo + lo' + 1) (hi + hi' + 1) := by
 have h1 := wf_len hl
 have h2 := wf_len hr
 cases l with
 | mk es ks =>
  cases r with
  | mk es2 ks2 =>
   cases d with
   | zero =>
    simp only [Nd.es] at *
    refine ⟨?_, ?_, ?_⟩
    ·show ks ++ ks2 = []
     rw [hl.1, hr.1]; rfl
    ·simp [Nd.es]; omega
    ·simp [Nd.es]; omega
   | succ d =>
    simp only [Nd.es] at *
    refine ⟨?_, ?_, ?_, ?_⟩
    ·have := hl.1
     have := hr.1
     simp [Nd.es, Nd.ks]; omega
    ·simp [Nd.es]; omega
    ·simp [Nd.es]; omega
    ·intro k hk
     rcases List.mem_append.1 hk with h | h
     ·exact hl.2.2.2 k h
     ·exact hr.2.2.2 k h
end Go.Proofs.YtclcajnodoifjaaGreatDoor

namespace Go.Proofs.YtclcajnodoifjaaGreatDoor
set_option maxRecDepth 100000

/-- an order in which entries may be alike -/
structure Ord3 {α : Type} (lt : α → α → Bool) : Prop where
 asym : ∀ {a b}, lt a b = true → lt b a = false
 lt_le : ∀ {a b c}, lt a b = true → lt c b = false → lt a c = true
 le_lt : ∀ {a b c}, lt b a = false → lt b c = true → lt a c = true
abbrev Rise {α : Type} (lt : α → α → Bool) (l : List α) : Prop := l.Pairwise (fun a b => lt a b = true)
theorem Ord3.trans {α : Type} {lt : α → α → Bool} (o : Ord3 lt) {a b c : α} (h1 : lt a b = true) (h2 : lt b c = true) : lt a c = true := o.lt_le h1 (o.asym h2)
/-- where an entry belongs -/
def place {α : Type} (lt : α → α → Bool) (e : α) (l : List α) : Nat := (l.takeWhile (fun x => lt x e)).length
/-- a list with an entry where it belongs -/
def ins {α : Type} (lt : α → α → Bool) (e : α) (l : List α) : List α := l.takeWhile (fun x => lt x e) ++ e :: l.dropWhile (fun x => lt x e)
/-- a list without what is like an entry -/
def del {α : Type} (lt : α → α → Bool) (e : α) (l : List α) : List α := l.filter (fun x => lt x e || lt e x)
theorem place_le {α : Type} (lt : α → α → Bool) (e : α) (l : List α) : place lt e l ≤ l.length := by
 unfold place
 exact (List.takeWhile_prefix _).length_le
theorem take_place {α : Type} (lt : α → α → Bool) (e : α) : ∀ l : List α, l.take (place lt e l) = l.takeWhile (fun x => lt x e)
 | [] => by simp
 | x :: l => by
  have := take_place lt e l
  unfold place at this ⊢
  cases h : lt x e <;> simp [h, this]
theorem drop_place {α : Type} (lt : α → α → Bool) (e : α) : ∀ l : List α, l.drop (place lt e l) = l.dropWhile (fun x => lt x e)
 | [] => by simp
 | x :: l => by
  have := drop_place lt e l
  unfold place at this ⊢
  cases h : lt x e <;> simp [h, this]
theorem takeWhile_all {α : Type} {p : α → Bool} : ∀ {l : List α} {x : α}, x ∈ l.takeWhile p → p x = true
 | y :: l, x, h => by
  rw [List.takeWhile_cons] at h
  cases hy : p y
  ·simp [hy] at h
  ·simp only [hy, if_true] at h
   rcases List.mem_cons.1 h with h | h
   ·rw [h]; exact hy
   ·exact takeWhile_all h
theorem dropWhile_head {α : Type} {p : α → Bool} : ∀ {l : List α} {x : α} {r : List α}, l.dropWhile p = x :: r → p x = false
 | y :: l, x, r, h => by
  rw [List.dropWhile_cons] at h
  cases hy : p y
  ·simp [hy] at h
   rw [← h.1]; exact hy
  ·simp only [hy, if_true] at h
   exact dropWhile_head h
theorem takeWhile_mid {α : Type} {p : α → Bool} : ∀ {a m b : List α}, (∀ x ∈ a, p x = true) → (∀ x ∈ b, p x = false) → (a ++ (m ++ b)).takeWhile p = a ++ m.takeWhile p
 | x :: a, m, b, h1, h2 => by
  have hx := h1 x (by simp)
  rw [List.cons_append, List.takeWhile_cons, if_pos hx, takeWhile_mid (fun y hy => h1 y (by simp [hy])) h2, List.cons_append]
 | [], x :: m, b, h1, h2 => by
  have := takeWhile_mid (a := []) (m := m) (b := b) (p := p) (by simp) h2
  rw [List.nil_append, List.nil_append] at this ⊢
  rw [List.cons_append, List.takeWhile_cons, List.takeWhile_cons, this]
 | [], [], b, h1, h2 => by
  cases b with
  | nil => rfl
  | cons x b =>
   have := h2 x (by simp)
   simp [this]
theorem dropWhile_mid {α : Type} {p : α → Bool} : ∀ {a m b : List α}, (∀ x ∈ a, p x = true) → (∀ x ∈ b, p x = false) → (a ++ (m ++ b)).dropWhile p = m.dropWhile p ++ b
 | x :: a, m, b, h1, h2 => by
  have hx := h1 x (by simp)
  rw [List.cons_append, List.dropWhile_cons, if_pos hx, dropWhile_mid (fun y hy => h1 y (by simp [hy])) h2]
 | [], x :: m, b, h1, h2 => by
  have := dropWhile_mid (a := []) (m := m) (b := b) (p := p) (by simp) h2
  rw [List.nil_append] at this ⊢
  rw [List.cons_append, List.dropWhile_cons, List.dropWhile_cons, this]
  split <;> rfl
 | [], [], b, h1, h2 => by
  cases b with
  | nil => rfl
  | cons x b =>
   have := h2 x (by simp)
   simp [this]
theorem ins_mid {α : Type} {lt : α → α → Bool} {e : α} {a m b : List α} (h1 : ∀ x ∈ a, lt x e = true) (h2 : ∀ x ∈ b, lt x e = false) : ins lt e (a ++ (m ++ b)) = a ++ (ins lt e m ++ b) := by
 unfold ins
 rw [takeWhile_mid h1 h2, dropWhile_mid h1 h2]
 simp
theorem del_mid {α : Type} {lt : α → α → Bool} {e : α} {a m b : List α} (h1 : ∀ x ∈ a, lt x e = true) (h2 : ∀ x ∈ b, lt e x = true) : del lt e (a ++ (m ++ b)) = a ++ (del lt e m ++ b) := by
 unfold del
 have ha : a.filter (fun x => lt x e || lt e x) = a := List.filter_eq_self.2 (fun x hx => by simp [h1 x hx])
 have hb : b.filter (fun x => lt x e || lt e x) = b := List.filter_eq_self.2 (fun x hx => by simp [h2 x hx])
 rw [List.filter_append, List.filter_append, ha, hb]
/-- the last of what lies ahead is an entry, and the first of what lies behind -/
theorem pre_last {α : Type} {a : List α} {e : α} {x : List (List α)} (h : (a ++ [e]).length = x.length) : ∃ l, pre (a ++ [e]) x = l ++ [e] := by
 have hx : x ≠ [] := by intro h0; rw [h0] at h; simp at h
 obtain ⟨y, z, rfl⟩ : ∃ y z, x = y ++ [z] := ⟨x.dropLast, x.getLast hx, (List.dropLast_concat_getLast hx).symm⟩
 rw [pre_app a y [e] [z] (by simpa using h)]
 exact ⟨pre a y ++ z, by simp [pre]⟩
theorem post_head {α : Type} {e : α} {b : List α} {x : List (List α)} (h : (e :: b).length = x.length) : ∃ l, post (e :: b) x = e :: l := by
 cases x with
 | nil => simp at h
 | cons z x => exact ⟨_, rfl⟩
theorem rise_le_last {α : Type} {lt : α → α → Bool} {l : List α} {e : α} (h : Rise lt (l ++ [e])) : ∀ x ∈ l ++ [e], lt x e = true ∨ x = e := by
 intro x hx
 rcases List.mem_append.1 hx with h1 | h1
 ·exact Or.inl ((List.pairwise_append.1 h).2.2 x h1 e (by simp))
 ·exact Or.inr (by simpa using h1)
theorem rise_ge_head {α : Type} {lt : α → α → Bool} {l : List α} {e : α} (h : Rise lt (e :: l)) : ∀ x ∈ e :: l, lt e x = true ∨ x = e := by
 intro x hx
 rcases List.mem_cons.1 hx with h1 | h1
 ·exact Or.inr h1
 ·exact Or.inl ((List.pairwise_cons.1 h).1 x h1)
/-- what lies ahead of a kid is no further than the entry ahead of it -/
theorem ahead_le {α : Type} {lt : α → α → Bool} {n : Nd α} {i : Nat} (hn : n.ks.length = n.es.length + 1) (hi : i ≤ n.es.length) (hr : Rise lt (n.ahead i)) {x : α} (hx : x ∈ n.ahead i) : ∃ y, n.es[i - 1]? = some y ∧ 0 < i ∧ (lt x y = true ∨ x = y) := by
 cases i with
 | zero => simp [Nd.ahead, pre] at hx
 | succ i =>
  have hi' : i < n.es.length := by omega
  have e : n.es.take (i + 1) = n.es.take i ++ [n.es[i]] := by rw [List.take_add_one, List.getElem?_eq_getElem hi']; rfl
  obtain ⟨l, hl⟩ := pre_last (a := n.es.take i) (e := n.es[i]) (x := (n.ks.take (i + 1)).map Nd.fl) (by simp; omega)
  have e2 : n.ahead (i + 1) = l ++ [n.es[i]] := by unfold Nd.ahead; rw [e, hl]
  rw [e2] at hr hx
  exact ⟨n.es[i], by simp, by omega, rise_le_last hr x hx⟩
theorem behind_ge {α : Type} {lt : α → α → Bool} {n : Nd α} {i : Nat} (hn : n.ks.length = n.es.length + 1) (hr : Rise lt (n.behind (i + 1))) {x : α} (hx : x ∈ n.behind (i + 1)) : ∃ y, n.es[i]? = some y ∧ (lt y x = true ∨ x = y) := by
 unfold Nd.behind at hr hx
 rw [Nat.add_sub_cancel] at hr hx
 by_cases hi : i < n.es.length
 ·rw [List.drop_eq_getElem_cons hi] at hr hx
  obtain ⟨l, hl⟩ := post_head (e := n.es[i]) (b := n.es.drop (i + 1)) (x := (n.ks.drop (i + 1)).map Nd.fl) (by simp; omega)
  rw [hl] at hr hx
  exact ⟨n.es[i], by simp [hi], rise_ge_head hr x hx⟩
 ·rw [List.drop_eq_nil_of_le (by omega)] at hx
  simp [post] at hx
/-- the entries ahead of a place belong ahead, the others do not -/
theorem place_ahead {α : Type} {lt : α → α → Bool} {e y : α} {l : List α} {i : Nat} (hi : i < place lt e l) (h : l[i]? = some y) : lt y e = true := by
 have : (l.take (place lt e l))[i]? = some y := by rw [List.getElem?_take_of_lt hi]; exact h
 rw [take_place] at this
 exact takeWhile_all (p := fun x => lt x e) (List.mem_of_getElem? this)
theorem place_at {α : Type} {lt : α → α → Bool} {e y : α} {l : List α} (h : l[place lt e l]? = some y) : lt y e = false := by
 obtain ⟨h1, h2⟩ := List.getElem?_eq_some_iff.1 h
 have := List.drop_eq_getElem_cons h1
 rw [drop_place, h2] at this
 exact dropWhile_head (p := fun x => lt x e) this
/-- an entry put in, d levels down -/
def Nd.putN {α : Type} (lt : α → α → Bool) : Nat → Nd α → α → Nd α
 | 0, n, e => .mk (n.es.take (place lt e n.es) ++ e :: n.es.drop (place lt e n.es)) []
 | d + 1, n, e =>
  match n.ks[place lt e n.es]? with
  | some k => n.withK (place lt e n.es) (place lt e n.es + 1) (k.putN lt d e)
  | none => n
theorem wf_kid {α : Type} {d lo hi i : Nat} {n k : Nd α} (h : n.wf (d + 1) lo hi) (hk : n.ks[i]? = some k) : k.wf d 8 16 := by
 cases n with
 | mk es ks => exact h.2.2.2 k (List.mem_of_getElem? hk)
theorem fl_zero {α : Type} {lo hi : Nat} {n : Nd α} (h : n.wf 0 lo hi) : n.fl = n.es := by
 cases n with
 | mk es ks =>
  have := h.1
  subst this
  exact fl_leaf es
/-- around the place of an entry -/
theorem around {α : Type} {lt : α → α → Bool} (o : Ord3 lt) {n k : Nd α} {e : α} (hn : n.ks.length = n.es.length + 1) (hr : Rise lt n.fl) (hk : n.ks[place lt e n.es]? = some k) : Rise lt k.fl ∧ (∀ x ∈ n.ahead (place lt e n.es), lt x e = true) ∧ (∀ x ∈ n.behind (place lt e n.es + 1), lt x e = false) := by
 rw [fl_part hn hk] at hr
 obtain ⟨r1, r2, _⟩ := List.pairwise_append.1 hr
 obtain ⟨r3, r4, _⟩ := List.pairwise_append.1 r2
 refine ⟨r3, fun x hx => ?_, fun x hx => ?_⟩
 ·obtain ⟨y, hy, h0, h1⟩ := ahead_le hn (place_le _ _ _) r1 hx
  have := place_ahead (lt := lt) (e := e) (by omega) hy
  rcases h1 with h1 | h1
  ·exact o.trans h1 this
  ·rw [h1]; exact this
 ·obtain ⟨y, hy, h1⟩ := behind_ge hn r4 hx
  have := place_at (lt := lt) (e := e) hy
  rcases h1 with h1 | h1
  ·cases hx : lt x e
   ·rfl
   ·rw [o.trans h1 hx] at this
    exact this
  ·rw [h1]; exact this
theorem put_ok {α : Type} {lt : α → α → Bool} (o : Ord3 lt) : ∀ (d : Nat) {lo : Nat} {n : Nd α} {e : α}, n.wf d lo 16 → Rise lt n.fl → (n.putN lt d e).fl = ins lt e n.fl ∧ (n.putN lt d e).wf d n.es.length (n.es.length + 1)
 | 0, lo, n, e, h, hr => by
  refine ⟨?_, ?_⟩
  ·rw [fl_zero h]
   unfold Nd.putN
   rw [fl_leaf, take_place, drop_place]
   rfl
  ·have := place_le lt e n.es
   unfold Nd.putN
   refine ⟨rfl, ?_, ?_⟩ <;> simp <;> omega
 | d + 1, lo, n, e, h, hr => by
  have hn := wf_klen h
  have hp := place_le lt e n.es
  have hk : n.ks[place lt e n.es]? = some (n.ks[place lt e n.es]'(by omega)) := List.getElem?_eq_getElem (by omega)
  generalize n.ks[place lt e n.es]'(by omega) = k at hk
  obtain ⟨a1, a2, a3⟩ := around o hn hr hk
  have hkw := wf_kid h hk
  have hkl := wf_len hkw
  obtain ⟨i1, i2⟩ := put_ok o d (e := e) hkw a1
  have i3 := wf_len i2
  obtain ⟨w1, w2⟩ := withK_ok (f := place lt e n.es) (t := place lt e n.es + 1) (kid := k.putN lt d e) h (by omega) (by omega) (wf_mono i2 (by omega) (by omega))
  have w3 := wf_len w2
  have ep : n.putN lt (d + 1) e = n.withK (place lt e n.es) (place lt e n.es + 1) (k.putN lt d e) := by
   rw [Nd.putN, hk]
  rw [ep]
  refine ⟨?_, wf_mono w2 (by omega) (by omega)⟩
  rw [w1, i1, fl_part hn hk, ins_mid a2 a3]
theorem ins_rise {α : Type} {lt : α → α → Bool} (o : Ord3 lt) {e : α} : ∀ {l : List α}, Rise lt l → (∀ x ∈ l, (lt x e || lt e x) = true) → Rise lt (ins lt e l)
 | [], _, _ => by simp [ins, Rise]
 | x :: l, h, hd => by
  obtain ⟨h1, h2⟩ := List.pairwise_cons.1 h
  cases hx : lt x e with
  | true =>
   have e1 : ins lt e (x :: l) = x :: ins lt e l := by simp [ins, hx]
   rw [e1]
   refine List.pairwise_cons.2 ⟨fun y hy => ?_, ins_rise o h2 (fun y hy => hd y (by simp [hy]))⟩
   unfold ins at hy
   rcases List.mem_append.1 hy with hy | hy
   ·exact h1 y ((List.takeWhile_prefix _).subset hy)
   ·rcases List.mem_cons.1 hy with hy | hy
    ·rw [hy]; exact hx
    ·exact h1 y ((List.dropWhile_suffix _).subset hy)
  | false =>
   have e1 : ins lt e (x :: l) = e :: x :: l := by simp [ins, hx]
   have hex : lt e x = true := by simpa [hx] using hd x (by simp)
   rw [e1]
   refine List.pairwise_cons.2 ⟨fun y hy => ?_, h⟩
   rcases List.mem_cons.1 hy with hy | hy
   ·rw [hy]; exact hex
   ·exact o.trans hex (h1 y hy)
end Go.Proofs.YtclcajnodoifjaaGreatDoor

