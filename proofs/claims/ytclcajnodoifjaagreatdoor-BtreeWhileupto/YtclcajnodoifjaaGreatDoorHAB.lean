/-
  Trees of entries as plain data: the root, and the entries of a span one by one, up and down.
-/
import Derived.Test.YtclcajnodoifjaaGreatDoorHAA
import Derived.Test.YtclcajnodoifjaaGreatDoorProg
import Derived.WalkKit
import Derived.WalkSpells
import Derived.WalkLawsBesides
import Derived.Lib.OthersKept
import Derived.Lib.ValidLaws
import Derived.Test.YtclcajnodoifjaaGreatDoorShelf
import Derived.Shelf.Bits.Mul64
namespace Go.Proofs.YtclcajnodoifjaaGreatDoor
set_option maxRecDepth 100000

/-- a node as the one above all others -/
def Nd.rootN {α : Type} (n : Nd α) : Nd α :=
  if 16 < n.es.length then
    match n.halves with
    | some (l, m, r) => .mk [m] [l, r]
    | none => n
  else if n.es.length = 0 then
    match n.ks with
    | [k] => k
    | _ => n
  else n
/-- a tree: a leaf of up to 16, or kids below one entry at least -/
def Nd.tree {α : Type} (d : Nat) (n : Nd α) : Prop := n.wf d (min d 1) 16
theorem root_ok {α : Type} {d : Nat} {n : Nd α} (h : n.wf d 0 17) : n.rootN.fl = n.fl ∧ ∃ d', n.rootN.tree d' := by
  have hl := wf_len h
  unfold Nd.rootN
  by_cases h16 : 16 < n.es.length
  · obtain ⟨l, m, r, e1, e2, e3, e4⟩ := halves_some h h16 (by omega)
    rw [if_pos h16, e1]
    refine ⟨?_, d + 1, ?_⟩
    · show (Nd.mk [m] [l, r]).fl = _
      rw [e2, Nd.fl_eq]
      simp [il, post]
    · show Nd.wf (d + 1) (min (d + 1) 1) 16 (Nd.mk [m] [l, r])
      refine ⟨rfl, by simp, by simp, fun k hk => ?_⟩
      rcases List.mem_cons.1 hk with rfl | hk
      · exact e3
      · rw [List.mem_singleton.1 hk]; exact e4
  · rw [if_neg h16]
    by_cases h0 : n.es.length = 0
    · rw [if_pos h0]
      cases d with
      | zero =>
        cases n with
        | mk es ks =>
          have hk := h.1
          subst hk
          show (Nd.mk es []).fl = _ ∧ ∃ d', (Nd.mk es []).tree d'
          exact ⟨rfl, 0, wf_mono h (by simp) (by omega)⟩
      | succ d =>
        have hn := wf_klen h
        rw [h0] at hn
        obtain ⟨k, hk⟩ := List.length_eq_one_iff.1 hn
        rw [hk]
        have hk0 : n.ks[0]? = some k := by rw [hk]; rfl
        have hkw := wf_kid h hk0
        have hkl := wf_len hkw
        show k.fl = n.fl ∧ ∃ d', k.tree d'
        refine ⟨?_, d, wf_mono hkw (by omega) hkl.2⟩
        have he : n.es = [] := List.eq_nil_of_length_eq_zero h0
        rw [n.eta, hk, he, Nd.fl_eq]
        simp [il, post]
    · rw [if_neg h0]
      exact ⟨rfl, d, wf_mono h (by omega) (by omega)⟩
/-- the first place from which on something holds -/
def from_ {α : Type} (p : α → Bool) (l : List α) : Nat := (l.takeWhile (fun x => !p x)).length
theorem from_le {α : Type} (p : α → Bool) (l : List α) : from_ p l ≤ l.length := (List.takeWhile_prefix _).length_le
theorem from_ahead {α : Type} {p : α → Bool} {l : List α} {i : Nat} {y : α} (hi : i < from_ p l) (h : l[i]? = some y) : p y = false := by
  have := place_ahead (lt := fun x (_ : α) => !p x) (e := y) (l := l) (i := i) (y := y) hi h
  simpa using this
theorem from_at {α : Type} {p : α → Bool} {l : List α} {y : α} (h : l[from_ p l]? = some y) : p y = true := by
  have := place_at (lt := fun x (_ : α) => !p x) (e := y) (l := l) (y := y) h
  simpa using this
/-- what holds at an entry holds at all behind it -/
abbrev Up {α : Type} (lt : α → α → Bool) (p : α → Bool) : Prop := ∀ a b, lt a b = true → p a = true → p b = true
theorem from_behind {α : Type} {lt : α → α → Bool} {p : α → Bool} (hu : Up lt p) {l : List α} (hr : Rise lt l) {i : Nat} {y : α} (hi : from_ p l ≤ i) (h : l[i]? = some y) : p y = true := by
  obtain ⟨h1, h2⟩ := List.getElem?_eq_some_iff.1 h
  have h3 : from_ p l < l.length := by omega
  have h4 := from_at (p := p) (l := l) (List.getElem?_eq_getElem h3)
  by_cases he : from_ p l = i
  · rw [← h2]
    simpa only [he] using h4
  · have := List.pairwise_iff_getElem.1 hr (from_ p l) i h3 h1 (by omega)
    rw [h2] at this
    exact hu _ _ this h4
/-- entries of a span -/
structure Span {α : Type} (lt : α → α → Bool) (lo hi : α → Bool) : Prop where
  up : ∀ {a b}, lt a b = true → lo a = true → lo b = true
  down : ∀ {a b}, lt a b = true → hi b = true → hi a = true
abbrev within {α : Type} (lo hi : α → Bool) (l : List α) : List α := l.filter (fun x => lo x && hi x)
abbrev to_ {α : Type} (hi : α → Bool) (l : List α) : Nat := from_ (fun x => !hi x) l
theorem Span.up' {α : Type} {lt : α → α → Bool} {lo hi : α → Bool} (s : Span lt lo hi) : Up lt (fun x => !hi x) := by
  intro a b h1 h2
  cases h3 : hi b
  · show (!hi b) = true; rw [h3]; rfl
  · simp [s.down h1 h3] at h2
/-- the entries of a node rise -/
theorem es_sub {α : Type} : ∀ (es : List α) (fs : List (List α)), es.length = fs.length → es.Sublist (post es fs)
  | [], [], _ => List.Sublist.refl _
  | e :: es, f :: fs, h => by
    have := es_sub es fs (by simpa using h)
    exact (this.trans (List.sublist_append_right f _)).cons_cons e
  | [], _ :: _, h => by simp at h
  | _ :: _, [], h => by simp at h
theorem es_rise {α : Type} {lt : α → α → Bool} {n : Nd α} (hn : n.ks = [] ∨ n.ks.length = n.es.length + 1) (hr : Rise lt n.fl) : Rise lt n.es := by
  rw [n.eta, Nd.fl_eq] at hr
  rcases hn with hn | hn
  · rw [hn] at hr
    exact hr
  · cases hk : n.ks with
    | nil => rw [hk] at hn; simp at hn
    | cons k ks =>
      rw [hk] at hr hn
      exact List.Pairwise.sublist ((es_sub n.es (ks.map Nd.fl) (by simp at hn ⊢; omega)).trans (List.sublist_append_right _ _)) hr
variable {α : Type} {lt : α → α → Bool} {lo hi : α → Bool}
theorem none_ahead (s : Span lt lo hi) {n : Nd α} {i : Nat} (hn : n.ks.length = n.es.length + 1) (hr : Rise lt (n.ahead i)) (hi' : i ≤ from_ lo n.es) : within lo hi (n.ahead i) = [] := by
  apply List.filter_eq_nil_iff.2
  intro x hx
  have hle := from_le lo n.es
  obtain ⟨y, hy, h0, h1⟩ := ahead_le hn (by omega) hr hx
  have hy' := from_ahead (p := lo) (by omega) hy
  have : lo x = false := by
    rcases h1 with h1 | h1
    · cases hx : lo x
      · rfl
      · rw [s.up h1 hx] at hy'; exact hy'
    · rw [h1]; exact hy'
  simp [this]
theorem none_behind (s : Span lt lo hi) {n : Nd α} {i : Nat} (hn : n.ks.length = n.es.length + 1) (hre : Rise lt n.es) (hr : Rise lt (n.behind (i + 1))) (hi' : to_ hi n.es ≤ i) : within lo hi (n.behind (i + 1)) = [] := by
  apply List.filter_eq_nil_iff.2
  intro x hx
  obtain ⟨y, hy, h1⟩ := behind_ge hn hr hx
  have hy' := from_behind s.up' hre hi' hy
  have hy' : hi y = false := by simpa using hy'
  have : hi x = false := by
    rcases h1 with h1 | h1
    · cases hx : hi x
      · rfl
      · rw [s.down h1 hx] at hy'; exact hy'
    · rw [h1]; exact hy'
  simp [this]
/-- an entry from the one place up to the other is in the span -/
theorem in_span (s : Span lt lo hi) {l : List α} (hr : Rise lt l) {i : Nat} {y : α} (h1 : from_ lo l ≤ i) (h2 : i < to_ hi l) (h : l[i]? = some y) : (lo y && hi y) = true := by
  have h3 := from_behind (p := lo) (fun _ _ h1 h2 => s.up h1 h2) hr h1 h
  have h4 := from_ahead h2 h
  simp at h4
  simp [h3, h4]
/-- the first place is behind the other: there is none -/
theorem span_none (s : Span lt lo hi) {n : Nd α} {d l h : Nat} (hw : n.wf d l h) (hr : Rise lt n.fl) (hc : to_ hi n.es < from_ lo n.es) : within lo hi n.fl = [] := by
  have hf := from_le lo n.es
  have ht : to_ hi n.es < n.es.length := by omega
  have hy : n.es[to_ hi n.es]? = some (n.es[to_ hi n.es]'ht) := List.getElem?_eq_getElem ht
  generalize n.es[to_ hi n.es]'ht = y at hy
  have h1 := from_ahead hc hy
  have h2 := from_at hy
  have h2 : hi y = false := by simpa using h2
  have hm : y ∈ n.fl := by
    have := List.mem_of_getElem? hy
    cases d with
    | zero => rw [fl_zero hw]; exact this
    | succ d =>
      have hn := wf_klen hw
      rw [n.eta, Nd.fl_eq]
      cases hk : n.ks with
      | nil => rw [hk] at hn; simp at hn
      | cons k ks =>
        rw [hk] at hn
        exact List.mem_append_right _ ((es_sub n.es (ks.map Nd.fl) (by simp at hn ⊢; omega)).subset this)
  obtain ⟨a, b, e⟩ := List.append_of_mem hm
  rw [e] at hr ⊢
  obtain ⟨_, r2, r3⟩ := List.pairwise_append.1 hr
  obtain ⟨r4, _⟩ := List.pairwise_cons.1 r2
  apply List.filter_eq_nil_iff.2
  intro x hx
  rcases List.mem_append.1 hx with hx | hx
  · have : lo x = false := by
      cases hl : lo x
      · rfl
      · rw [s.up (r3 x hx y (by simp)) hl] at h1; exact h1
    simp [this]
  · have : hi x = false := by
      rcases List.mem_cons.1 hx with hx | hx
      · rw [hx]; exact h2
      · cases hl : hi x
        · rfl
        · rw [s.down (r4 x hx) hl] at h2; exact h2
    simp [this]
/-- what is left going up from kid i on; what is left going down from kid i on -/
def Nd.rest (lo hi : α → Bool) (n : Nd α) (i : Nat) : List α := within lo hi ((match n.ks[i]? with | some k => k.fl | none => []) ++ n.behind (i + 1))
def Nd.rest' (lo hi : α → Bool) (n : Nd α) (i : Nat) : List α := within lo hi (n.ahead i ++ (match n.ks[i]? with | some k => k.fl | none => []))
theorem rise_parts {n k : Nd α} {i : Nat} (hn : n.ks.length = n.es.length + 1) (hr : Rise lt n.fl) (hk : n.ks[i]? = some k) : Rise lt (n.ahead i) ∧ Rise lt k.fl ∧ Rise lt (n.behind (i + 1)) := by
  rw [fl_part hn hk] at hr
  obtain ⟨r1, r2, _⟩ := List.pairwise_append.1 hr
  obtain ⟨r3, r4, _⟩ := List.pairwise_append.1 r2
  exact ⟨r1, r3, r4⟩
theorem up_begin (s : Span lt lo hi) {n k : Nd α} (hn : n.ks.length = n.es.length + 1) (hr : Rise lt n.fl) (hk : n.ks[from_ lo n.es]? = some k) : within lo hi n.fl = n.rest lo hi (from_ lo n.es) := by
  obtain ⟨r1, _, _⟩ := rise_parts hn hr hk
  have h := none_ahead s hn r1 (Nat.le_refl _)
  unfold Nd.rest
  rw [hk, fl_part hn hk, within, List.filter_append, ← within, h]
  rfl
theorem up_step (s : Span lt lo hi) {n k : Nd α} {i : Nat} {e : α} (hn : n.ks.length = n.es.length + 1) (hr : Rise lt n.fl) (hk : n.ks[i]? = some k) (he : n.es[i]? = some e) (h1 : from_ lo n.es ≤ i) (h2 : i < to_ hi n.es) : n.rest lo hi i = within lo hi k.fl ++ e :: n.rest lo hi (i + 1) := by
  obtain ⟨hi1, _⟩ := List.getElem?_eq_some_iff.1 he
  have hk2 : n.ks[i + 1]? = some (n.ks[i + 1]'(by omega)) := List.getElem?_eq_getElem (by omega)
  generalize n.ks[i + 1]'(by omega) = k2 at hk2
  have hp := in_span s (es_rise (Or.inr hn) hr) h1 h2 he
  unfold Nd.rest
  rw [hk, hk2, behind_succ hk2 he]
  simp only [within, List.filter_append, List.filter_cons, hp, if_true]
theorem up_end (s : Span lt lo hi) {n k : Nd α} (hn : n.ks.length = n.es.length + 1) (hr : Rise lt n.fl) (hk : n.ks[to_ hi n.es]? = some k) : n.rest lo hi (to_ hi n.es) = within lo hi k.fl := by
  obtain ⟨_, _, r3⟩ := rise_parts hn hr hk
  have h := none_behind s hn (es_rise (Or.inr hn) hr) r3 (Nat.le_refl _)
  unfold Nd.rest
  rw [hk, within, List.filter_append, ← within, ← within, h]
  exact List.append_nil _
theorem down_begin (s : Span lt lo hi) {n k : Nd α} (hn : n.ks.length = n.es.length + 1) (hr : Rise lt n.fl) (hk : n.ks[to_ hi n.es]? = some k) : within lo hi n.fl = n.rest' lo hi (to_ hi n.es) := by
  obtain ⟨_, _, r3⟩ := rise_parts hn hr hk
  have h := none_behind s hn (es_rise (Or.inr hn) hr) r3 (Nat.le_refl _)
  unfold Nd.rest'
  rw [hk, fl_part hn hk, ← List.append_assoc, within, List.filter_append, ← within, ← within, h, List.append_nil]
theorem down_step (s : Span lt lo hi) {n k : Nd α} {i : Nat} {e : α} (hn : n.ks.length = n.es.length + 1) (hr : Rise lt n.fl) (hk : n.ks[i + 1]? = some k) (he : n.es[i]? = some e) (h1 : from_ lo n.es ≤ i) (h2 : i < to_ hi n.es) : n.rest' lo hi (i + 1) = n.rest' lo hi i ++ e :: within lo hi k.fl := by
  obtain ⟨hi1, _⟩ := List.getElem?_eq_some_iff.1 he
  have hk2 : n.ks[i]? = some (n.ks[i]'(by omega)) := List.getElem?_eq_getElem (by omega)
  generalize n.ks[i]'(by omega) = k2 at hk2
  have hp := in_span s (es_rise (Or.inr hn) hr) h1 h2 he
  unfold Nd.rest'
  rw [hk, hk2, ahead_succ hk2 he]
  simp [within, List.filter_append, hp]
theorem down_end (s : Span lt lo hi) {n k : Nd α} (hn : n.ks.length = n.es.length + 1) (hr : Rise lt n.fl) (hk : n.ks[from_ lo n.es]? = some k) : n.rest' lo hi (from_ lo n.es) = within lo hi k.fl := by
  obtain ⟨r1, _, _⟩ := rise_parts hn hr hk
  have h := none_ahead s hn r1 (Nat.le_refl _)
  unfold Nd.rest'
  rw [hk, within, List.filter_append, ← within, h]
  rfl
/-- in a leaf -/
theorem leaf_ahead {l : List α} {i : Nat} (hi' : i ≤ from_ lo l) : within lo hi (l.take i) = [] := by
  apply List.filter_eq_nil_iff.2
  intro x hx
  obtain ⟨j, hj⟩ := List.getElem?_of_mem hx
  have hji : j < i := by
    have := (List.getElem?_eq_some_iff.1 hj).1
    simp at this
    omega
  rw [List.getElem?_take_of_lt hji] at hj
  simp [from_ahead (p := lo) (by omega) hj]
theorem leaf_behind (s : Span lt lo hi) {l : List α} (hr : Rise lt l) {i : Nat} (hi' : to_ hi l ≤ i) : within lo hi (l.drop i) = [] := by
  apply List.filter_eq_nil_iff.2
  intro x hx
  obtain ⟨j, hj⟩ := List.getElem?_of_mem hx
  rw [List.getElem?_drop] at hj
  have := from_behind s.up' hr (i := i + j) (Nat.le_trans hi' (by omega)) hj
  have : hi x = false := by simpa using this
  simp [this]
theorem leaf_begin {l : List α} : within lo hi l = within lo hi (l.drop (from_ lo l)) := by
  conv => lhs; rw [← List.take_append_drop (from_ lo l) l]
  rw [within, List.filter_append, ← within, leaf_ahead (Nat.le_refl _)]
  rfl
theorem leaf_step (s : Span lt lo hi) {l : List α} (hr : Rise lt l) {i : Nat} {e : α} (he : l[i]? = some e) (h1 : from_ lo l ≤ i) (h2 : i < to_ hi l) : within lo hi (l.drop i) = e :: within lo hi (l.drop (i + 1)) := by
  obtain ⟨hi1, hi2⟩ := List.getElem?_eq_some_iff.1 he
  have hp := in_span s hr h1 h2 he
  rw [List.drop_eq_getElem_cons hi1, hi2, within, List.filter_cons, if_pos hp]
theorem leaf_begin' (s : Span lt lo hi) {l : List α} (hr : Rise lt l) : within lo hi l = within lo hi (l.take (to_ hi l)) := by
  conv => lhs; rw [← List.take_append_drop (to_ hi l) l]
  rw [within, List.filter_append, ← within, ← within, leaf_behind s hr (Nat.le_refl _), List.append_nil]
theorem leaf_step' (s : Span lt lo hi) {l : List α} (hr : Rise lt l) {i : Nat} {e : α} (he : l[i]? = some e) (h1 : from_ lo l ≤ i) (h2 : i < to_ hi l) : within lo hi (l.take (i + 1)) = within lo hi (l.take i) ++ [e] := by
  have hp := in_span s hr h1 h2 he
  rw [List.take_add_one, he, within, List.filter_append]
  simp [hp]
end Go.Proofs.YtclcajnodoifjaaGreatDoor

namespace Go.Proofs.YtclcajnodoifjaaGreatDoor
open Go.RowKit

def repl (l : List UInt8) : Bool := l.take 3 == [239, 191, 189]

theorem u8_of_nat {a : UInt8} {n : Nat} (h : a.toNat = n) (hn : n < 256) : a = UInt8.ofNat n := by
  apply UInt8.toNat_inj.1; rw [h]; simp; omega

theorem repl_of : ∀ (l : List UInt8), 3 ≤ l.length → (l.getD 0 0).toNat = 239 → (l.getD 1 0).toNat = 191 → (l.getD 2 0).toNat = 189 → repl l = true
  | a :: b :: c :: l', _, e0, e1, e2 => by
    have ea : a = 239 := u8_of_nat (n := 239) e0 (by decide)
    have eb : b = 191 := u8_of_nat (n := 191) e1 (by decide)
    have ec : c = 189 := u8_of_nat (n := 189) e2 (by decide)
    subst ea eb ec
    rfl

theorem decode_bad (l : List UInt8) (h : (Lib.decodeL l).1 = 65533) (hr : repl l = false) : (Lib.decodeL l).2 = 1 := by
  rw [Lib.decodeL_N] at h ⊢
  have g0 := (l.getD 0 0).toNat_lt; have g1 := (l.getD 1 0).toNat_lt; have g2 := (l.getD 2 0).toNat_lt
  unfold Lib.decodeN at h ⊢
  by_cases h1 : (l.getD 0 0).toNat < 128
  · rw [if_pos h1] at h ⊢
  rw [if_neg h1] at h ⊢
  split at h
  · rename_i hc
    rw [if_pos hc]
    split at h
    · simp only at h; omega
    · rename_i hv; rw [if_neg hv]
  · rename_i hc
    rw [if_neg hc]
    split at h
    · rename_i hc2
      rw [if_pos hc2]
      split at h
      · rename_i hv
        simp only at h
        exfalso
        have e0 : (l.getD 0 0).toNat = 239 := by omega
        have e1 : (l.getD 1 0).toNat = 191 := by omega
        have e2 : (l.getD 2 0).toNat = 189 := by omega
        have hl : 3 ≤ l.length := by omega
        rw [repl_of l hl e0 e1 e2] at hr; cases hr
      · rename_i hv; rw [if_neg hv]
    · rename_i hc2
      rw [if_neg hc2]
      split at h
      · rename_i hc3
        rw [if_pos hc3]
        split at h
        · rename_i hv; simp only at h; exfalso; omega
        · rename_i hv; rw [if_neg hv]
      · rename_i hc3; rw [if_neg hc3]
theorem decode_repl (l : List UInt8) (hr : repl l = true) : Lib.decodeL l = (65533, 3) := by
  have h : l.take 3 = [239, 191, 189] := by simpa [repl] using hr
  match l with
  | [] => simp at h
  | [a] => simp at h
  | [a, b] => simp at h
  | a :: b :: c :: l' =>
    simp at h
    obtain ⟨rfl, rfl, rfl⟩ := h
    rw [Lib.decodeL_N]
    simp only [List.getD_cons_zero, List.getD_cons_succ, Lib.decodeN, List.length_cons]
    simp

theorem extract_repl (s : ByteArray) (pos : Nat) : ((s.extract pos (pos + 3)).toList == [239, 191, 189]) = repl (s.data.toList.drop pos) := by
  rw [Lib.toList_data, Lib.extract_data, Nat.add_sub_cancel_left]; rfl

theorem valid_at (s : ByteArray) (pos : Nat) (h : pos < s.size) (hv : ¬ (Utf8.decode s pos).1 = 65533 ∨ repl (s.data.toList.drop pos) = true) : Lib.validD (s.data.toList.drop pos) = Lib.validD (s.data.toList.drop (pos + (Utf8.decode s pos).2)) := by
  have hne : s.data.toList.drop pos ≠ [] := by
    intro e; have := congrArg List.length e; simp at this; have : s.data.size = s.size := rfl; omega
  rw [Lib.validD_step _ hne, Lib.decodeL_drop, List.drop_drop, if_neg]
  rintro ⟨h1, h2⟩
  rcases hv with hv | hv
  · exact hv h1
  · have := decode_repl _ hv; rw [Lib.decodeL_drop] at this; rw [this] at h2; simp at h2
theorem valid_not (s : ByteArray) (pos : Nat) (h : pos < s.size) (h1 : (Utf8.decode s pos).1 = 65533) (hr : repl (s.data.toList.drop pos) = false) : Lib.validD (s.data.toList.drop pos) = false := by
  have hne : s.data.toList.drop pos ≠ [] := by
    intro e; have := congrArg List.length e; simp at this; have : s.data.size = s.size := rfl; omega
  have h2 := decode_bad _ (by rw [Lib.decodeL_drop]; exact h1) hr
  rw [Lib.validD_step _ hne, if_pos ⟨by rw [Lib.decodeL_drop]; exact h1, h2⟩]
theorem width_pos' (s : ByteArray) (pos : Nat) (h : pos < s.size) : 1 ≤ (Utf8.decode s pos).2 := by
  by_cases ha : (s[pos]'h).toNat < 128
  · rw [decode_ascii s pos h ha]; exact Nat.le_refl _
  · exact (decode_high s pos h (by omega)).2

set_option maxHeartbeats 1000000 in
set_option maxRecDepth 1000000 in
theorem valid_any (s : ByteArray) (w : World) (hs : s.size ≤ 4096) :
    Calls Tryz.prog 60 #[.string s] w fun e w' => e = .returned (.bool (Lib.validD s.data.toList)) ∧ Below w.heap.size w w' := by
  obtain ⟨V, hV⟩ : ∃ V, V = Lib.validD s.data.toList := ⟨_, rfl⟩
  rw [← hV]
  have HV : Hid (V = Lib.validD s.data.toList) := hV
  clear hV
  go_enter Tryz.func60, Tryz.ntmps60
  go_wp2
  go_loopw [] (fun wr => ∃ pos : Nat, wr.heap[w.heap.size]? = some (.stringIter s pos) ∧ Below w.heap.size w wr ∧ Hid (V = Lib.validD (s.data.toList.drop pos)))
    (fun wr => s.size - wr.iterPos (w.heap.size))
  case atStart =>
    refine ⟨0, ?_, (Below.refl _ w).alloc (Nat.le_refl _) _, HV⟩
    have := World.iter_heap w s 0
    simpa using this
  case round =>
    obtain ⟨pos, hit, hbw, hv⟩ := hrel
    clear HV
    have hsz : w.heap.size < wr.heap.size := (Array.getElem?_eq_some_iff.1 hit).1
    by_cases hp : pos < s.size
    · have hnx : ∀ ty, (Instr.next (.pointer (some ⟨w.heap.size, 0, none⟩)) true ty).run Tryz.prog wr = _ := fun ty => Lib.run_next_any_at wr (w.heap.size) s pos ty hit hp
      have hwd := width_pos' s pos hp
      have hit2 := Lib.iterAt_heap wr (w.heap.size) s pos (pos + (Utf8.decode s pos).2) hit
      have hbw2 := Lib.below_iterAt hbw (k := w.heap.size) (by omega) s (pos + (Utf8.decode s pos).2)
      by_cases hr : (Utf8.decode s pos).1 = 65533
      · have br : (((Utf8.decode s pos).1 : Int) == 65533) = true := by rw [beq_iff_eq]; omega
        by_cases hl : s.size - pos < 3
        · have hbad := valid_not s pos hp hr (by
            simp only [repl, beq_eq_false_iff_ne]; intro e; have := congrArg List.length e; simp at this; have : s.data.size = s.size := rfl; omega)
          rw [hbad] at hv
          obtain rfl := hv.out
          clear hr
          go_wp2_with fail
          go_ret
          exact ⟨rfl, hbw2⟩
        · cases hx : repl (s.data.toList.drop pos)
          · have hbad := valid_not s pos hp hr hx
            rw [hbad] at hv
            obtain rfl := hv.out
            have hxx := (extract_repl s pos).trans hx
            clear hr hx hbad
            go_wp2_with fail
            go_ret
            exact ⟨rfl, hbw2⟩
          · have hv2 : Hid (V = Lib.validD (s.data.toList.drop (pos + (Utf8.decode s pos).2))) := by show _ = _; rw [← valid_at s pos hp (Or.inr hx)]; exact hv.out
            have hxx := (extract_repl s pos).trans hx
            clear hr hv hx
            go_wp2_with fail
            go_roundw
            case rel => exact ⟨_, hit2, hbw2, hv2⟩
            case measure =>
              simp only [World.iterPos, hit2, hit]
              omega
      · have br : (((Utf8.decode s pos).1 : Int) == 65533) = false := by rw [beq_eq_false_iff_ne]; omega
        have hv2 : Hid (V = Lib.validD (s.data.toList.drop (pos + (Utf8.decode s pos).2))) := by show _ = _; rw [← valid_at s pos hp (Or.inl hr)]; exact hv.out
        clear hr hv
        go_wp2_with fail
        go_roundw
        case rel => exact ⟨_, hit2, hbw2, hv2⟩
        case measure =>
          simp only [World.iterPos, hit2, hit]
          omega
    · have hnx : ∀ ty, (Instr.next (.pointer (some ⟨w.heap.size, 0, none⟩)) true ty).run Tryz.prog wr = _ := fun ty => Lib.run_next_end_at wr (w.heap.size) s pos ty hit hp
      have h := hv.out
      rw [List.drop_eq_nil_of_le (by have : s.data.size = s.size := rfl; simp; omega), Lib.validD_nil] at h
      subst h
      go_wp2_with fail
      go_ret
      exact ⟨rfl, hbw⟩
end Go.Proofs.YtclcajnodoifjaaGreatDoor

namespace Go.Proofs.YtclcajnodoifjaaGreatDoor
open Go.RowKit Go.Shelf

def Tabs (w : World) : Prop := Lib.Utf8Tabs (Tryz.laysValid_ren.g 3) (Tryz.laysValid_ren.g 4) w
theorem Tabs.below {w w' : World} (h : Tabs w) (hb : Below w.heap.size w w') : Tabs w' := Utf8Tabs_below h hb

/-- what is wrong with a text: 2 too long, 3 no UTF-8, else 0 -/
def chkT (s : ByteArray) : Int := if 4096 < s.size then 2 else if Lib.validD s.data.toList = true then 0 else 3
theorem chkT_long {s : ByteArray} (h : 4096 < s.size) : chkT s = 2 := by rw [chkT, if_pos h]
theorem chkT_ok {s : ByteArray} (h : ¬ 4096 < s.size) (hv : Lib.validD s.data.toList = true) : chkT s = 0 := by rw [chkT, if_neg h, if_pos hv]
theorem chkT_bad {s : ByteArray} (h : ¬ 4096 < s.size) (hv : Lib.validD s.data.toList = false) : chkT s = 3 := by rw [chkT, if_neg h, if_neg (by simp [hv])]
/-- what is wrong with a value: 1 none such, else its text's -/
def chk (ty n : Int) (s : ByteArray) : Int := if ty < 0 ∨ 4 < ty ∨ (ty = 4 ∧ n ≠ 0 ∧ n ≠ 1) then 1 else if ty = 3 then chkT s else 0
theorem chk_text (n : Int) (s : ByteArray) : chk 3 n s = chkT s := by
  rw [chk, if_neg (by omega), if_pos rfl]

set_option maxHeartbeats 1000000 in
theorem checkText_any (s : ByteArray) (w : World) (hs : s.size ≤ 9223372036854775807) (hT : Tabs w) :
    Calls Tryz.prog 71 #[.string s] w fun e w' => e = .returned (.int .i64 (chkT s)) ∧ Below w.heap.size w w' := by
  have cV : Calls Tryz.prog 87 #[.string s] w _ := Any.utf8_ValidString Tryz.laysValid s w hs hT
  by_cases h : 4096 < s.size
  · rw [chkT_long h]
    clear cV
    go_enter Tryz.func71, Tryz.ntmps71
    go_wp2
    go_ret
    exact ⟨rfl, Below.refl _ _⟩
  · cases hv : Lib.validD s.data.toList
    · rw [chkT_bad h hv]
      rw [hv] at cV
      clear hv
      go_enter Tryz.func71, Tryz.ntmps71
      go_wp2_with (go_at_call 87; refine cV.mono ?_; rintro e w' ⟨rfl, hb⟩)
      go_ret
      exact ⟨rfl, hb⟩
    · rw [chkT_ok h hv]
      rw [hv] at cV
      clear hv
      go_enter Tryz.func71, Tryz.ntmps71
      go_wp2_with (go_at_call 87; refine cV.mono ?_; rintro e w' ⟨rfl, hb⟩)
      go_ret
      exact ⟨rfl, hb⟩

set_option maxHeartbeats 1000000 in
theorem refCheck_any (ty n : Int) (s : ByteArray) (w : World) :
    Calls Tryz.prog 34 #[.agg #[.int .i64 ty, .int .i64 n, .string s]] w fun e w' => e = .returned (.int .i64 (chk ty n s)) ∧ Below w.heap.size w w' := by
  have hb1 : ∀ o, Below w.heap.size w (w.alloc o) := fun o => (Below.refl _ w).alloc (Nat.le_refl _) o
  by_cases h0 : ty < 0
  · rw [chk, if_pos (by omega)]
    go_enter Tryz.func34, Tryz.ntmps34
    go_wp2
    go_ret
    exact ⟨rfl, hb1 _⟩
  by_cases h4 : 4 < ty
  · rw [chk, if_pos (by omega)]
    go_enter Tryz.func34, Tryz.ntmps34
    go_wp2
    go_ret
    exact ⟨rfl, hb1 _⟩
  by_cases h3 : ty = 3
  · subst h3
    rw [chk_text]
    by_cases h : 4096 < s.size
    · rw [chkT_long h]
      go_enter Tryz.func34, Tryz.ntmps34
      go_wp2
      go_ret
      exact ⟨rfl, hb1 _⟩
    · cases hv : Lib.validD s.data.toList
      · rw [chkT_bad h hv]
        go_enter Tryz.func34, Tryz.ntmps34
        go_wp2_with (go_at_call 60; refine (valid_any s _ (by omega)).mono ?_; rintro e w' ⟨rfl, hb⟩)
        go_ret
        exact ⟨rfl, (hb1 _).trans (hb.mono (by simp))⟩
      · rw [chkT_ok h hv]
        go_enter Tryz.func34, Tryz.ntmps34
        go_wp2_with (go_at_call 60; refine (valid_any s _ (by omega)).mono ?_; rintro e w' ⟨rfl, hb⟩)
        go_ret
        exact ⟨rfl, (hb1 _).trans (hb.mono (by simp))⟩
  have b3 : (ty == 3) = false := by rw [beq_eq_false_iff_ne]; exact h3
  by_cases h5 : ty = 4
  · subst h5
    by_cases hn0 : n = 0
    · subst hn0
      rw [chk, if_neg (by omega), if_neg (by omega)]
      go_enter Tryz.func34, Tryz.ntmps34
      go_wp2
      go_ret
      exact ⟨rfl, hb1 _⟩
    by_cases hn1 : n = 1
    · subst hn1
      rw [chk, if_neg (by omega), if_neg (by omega)]
      go_enter Tryz.func34, Tryz.ntmps34
      go_wp2
      go_ret
      exact ⟨rfl, hb1 _⟩
    rw [chk, if_pos (by omega)]
    have e0 : (n != 0) = true := by rw [bne_iff_ne]; exact hn0
    have e1 : (n != 1) = true := by rw [bne_iff_ne]; exact hn1
    go_enter Tryz.func34, Tryz.ntmps34
    go_wp2
    go_ret
    exact ⟨rfl, hb1 _⟩
  rw [chk, if_neg (by omega), if_neg h3]
  have b4 : (ty == 4) = false := by rw [beq_eq_false_iff_ne]; exact h5
  go_enter Tryz.func34, Tryz.ntmps34
  go_wp2
  go_ret
  exact ⟨rfl, hb1 _⟩

end Go.Proofs.YtclcajnodoifjaaGreatDoor

namespace Go.Proofs.YtclcajnodoifjaaGreatDoor
open Go.RowKit Go.Shelf

set_option maxHeartbeats 1000000 in
theorem Check_any (ty n : Int) (s : ByteArray) (w : World) (hs : s.size ≤ 9223372036854775807) (hT : Tabs w) :
    Calls Tryz.prog 45 #[.agg #[.int .i64 ty, .int .i64 n, .string s]] w fun e w' => e = .returned (.int .i64 (chk ty n s)) ∧ Below w.heap.size w w' := by
  have hb1 : ∀ o, Below w.heap.size w (w.alloc o) := fun o => (Below.refl _ w).alloc (Nat.le_refl _) o
  by_cases h3 : ty = 3
  · subst h3
    rw [chk_text]
    go_enter Tryz.func45, Tryz.ntmps45
    go_wp2_with fail
    refine (checkText_any s _ hs (hT.below (hb1 _))).mono ?_
    rintro e w1 ⟨rfl, hb⟩
    go_wp2_with fail
    go_ret
    exact ⟨rfl, (hb1 _).trans (hb.mono (by simp))⟩
  have b3 : (ty == 3) = false := by rw [beq_eq_false_iff_ne]; exact h3
  by_cases h4 : ty = 4
  · subst h4
    by_cases hn0 : n = 0
    · subst hn0
      rw [chk, if_neg (by omega), if_neg (by omega)]
      go_enter Tryz.func45, Tryz.ntmps45
      go_wp2
      go_ret
      exact ⟨rfl, hb1 _⟩
    by_cases hn1 : n = 1
    · subst hn1
      rw [chk, if_neg (by omega), if_neg (by omega)]
      go_enter Tryz.func45, Tryz.ntmps45
      go_wp2
      go_ret
      exact ⟨rfl, hb1 _⟩
    rw [chk, if_pos (by omega)]
    have e0 : (n == 0) = false := by rw [beq_eq_false_iff_ne]; exact hn0
    have e1 : (n == 1) = false := by rw [beq_eq_false_iff_ne]; exact hn1
    go_enter Tryz.func45, Tryz.ntmps45
    go_wp2
    go_ret
    exact ⟨rfl, hb1 _⟩
  have b4 : (ty == 4) = false := by rw [beq_eq_false_iff_ne]; exact h4
  by_cases h0 : ty = 0
  · subst h0
    rw [chk, if_neg (by omega), if_neg (by omega)]
    go_enter Tryz.func45, Tryz.ntmps45
    go_wp2
    go_ret
    exact ⟨rfl, hb1 _⟩
  have b0 : (ty == 0) = false := by rw [beq_eq_false_iff_ne]; exact h0
  by_cases h1 : ty = 1
  · subst h1
    rw [chk, if_neg (by omega), if_neg (by omega)]
    go_enter Tryz.func45, Tryz.ntmps45
    go_wp2
    go_ret
    exact ⟨rfl, hb1 _⟩
  have b1 : (ty == 1) = false := by rw [beq_eq_false_iff_ne]; exact h1
  by_cases h2 : ty = 2
  · subst h2
    rw [chk, if_neg (by omega), if_neg (by omega)]
    go_enter Tryz.func45, Tryz.ntmps45
    go_wp2
    go_ret
    exact ⟨rfl, hb1 _⟩
  have b2 : (ty == 2) = false := by rw [beq_eq_false_iff_ne]; exact h2
  rw [chk, if_pos (by omega)]
  go_enter Tryz.func45, Tryz.ntmps45
  go_wp2
  go_ret
  exact ⟨rfl, hb1 _⟩

/-- a value: its type, its number, its text -/
structure Va where
  ty : Int
  n : Int
  s : ByteArray
def Va.chk (v : Va) : Int := YtclcajnodoifjaaGreatDoor.chk v.ty v.n v.s
/-- the values lie in a row -/
def valsAt (w : World) (g : Nat) (l : List Va) : Prop :=
  g < w.heap.size ∧ ∀ i v, l[i]? = some v → w.cell? ⟨g, i * 3, none⟩ = some (.int .i64 v.ty) ∧ w.cell? ⟨g, i * 3 + 1, none⟩ = some (.int .i64 v.n) ∧ w.cell? ⟨g, i * 3 + 2, none⟩ = some (.string v.s)
theorem valsAt.below {w w' : World} {g : Nat} {l : List Va} (h : valsAt w g l) (hb : Below w.heap.size w w') : valsAt w' g l :=
  ⟨Nat.lt_of_lt_of_le h.1 hb.size, fun i v hv => by
    have := h.2 i v hv
    exact ⟨(hb.cell (p := ⟨g, i * 3, none⟩) h.1).trans this.1, (hb.cell (p := ⟨g, i * 3 + 1, none⟩) h.1).trans this.2.1, (hb.cell (p := ⟨g, i * 3 + 2, none⟩) h.1).trans this.2.2⟩⟩
/-- the first error of some values -/
def errs : List Va → Int
  | [] => 0
  | v :: l => if v.chk = 0 then errs l else v.chk
theorem errs_pass {v : Va} {l : List Va} (h : v.chk = 0) : errs (v :: l) = errs l := by simp [errs, h]
theorem errs_stop {v : Va} {l : List Va} (h : ¬ v.chk = 0) : errs (v :: l) = v.chk := by simp [errs, h]
theorem drop_at {α : Type} {l : List α} {n : Nat} {x : α} (h : l[n]? = some x) : l.drop n = x :: l.drop (n + 1) := by
  obtain ⟨hn, rfl⟩ := List.getElem?_eq_some_iff.1 h
  exact List.drop_eq_getElem_cons hn

end Go.Proofs.YtclcajnodoifjaaGreatDoor

namespace Go.Proofs.YtclcajnodoifjaaGreatDoor
open Go.RowKit Go.Shelf

/-- the group of a type -/
def grp (ty : Int) : Int := if ty = 0 then 0 else if ty = 1 ∨ ty = 2 then 1 else if ty = 3 then 2 else if ty = 4 then 3 else 4
theorem ty_cases (ty : Int) : ty = 0 ∨ ty = 1 ∨ ty = 2 ∨ ty = 3 ∨ ty = 4 ∨ (ty ≠ 0 ∧ ty ≠ 1 ∧ ty ≠ 2 ∧ ty ≠ 3 ∧ ty ≠ 4) := by omega

set_option maxHeartbeats 1000000 in
theorem groupOf_any (ty : Int) (w : World) :
    Calls Tryz.prog 97 #[.int .i64 ty] w fun e w' => e = .returned (.int .i64 (grp ty)) ∧ w' = w := by
  rcases ty_cases ty with rfl | rfl | rfl | rfl | rfl | ⟨h0, h1, h2, h3, h4⟩
  · go_enter Tryz.func97, Tryz.ntmps97
    go_wp2
    go_ret
    exact ⟨rfl, rfl⟩
  · go_enter Tryz.func97, Tryz.ntmps97
    go_wp2
    go_ret
    exact ⟨rfl, rfl⟩
  · go_enter Tryz.func97, Tryz.ntmps97
    go_wp2
    go_ret
    exact ⟨rfl, rfl⟩
  · go_enter Tryz.func97, Tryz.ntmps97
    go_wp2
    go_ret
    exact ⟨rfl, rfl⟩
  · go_enter Tryz.func97, Tryz.ntmps97
    go_wp2
    go_ret
    exact ⟨rfl, rfl⟩
  · have hg : grp ty = 4 := by unfold grp; rw [if_neg h0, if_neg (by omega), if_neg h3, if_neg h4]
    rw [hg]
    have b0 : (ty == 0) = false := by rw [beq_eq_false_iff_ne]; exact h0
    have b1 : (ty == 1) = false := by rw [beq_eq_false_iff_ne]; exact h1
    have b2 : (ty == 2) = false := by rw [beq_eq_false_iff_ne]; exact h2
    have b3 : (ty == 3) = false := by rw [beq_eq_false_iff_ne]; exact h3
    have b4 : (ty == 4) = false := by rw [beq_eq_false_iff_ne]; exact h4
    clear h0 h1 h2 h3 h4
    go_enter Tryz.func97, Tryz.ntmps97
    go_wp2
    go_ret
    exact ⟨rfl, rfl⟩

end Go.Proofs.YtclcajnodoifjaaGreatDoor

namespace Go.Proofs.YtclcajnodoifjaaGreatDoor
open Go.RowKit Go.Shelf

/-- an int64 -/
def fit (x : Int) : Prop := -9223372036854775808 ≤ x ∧ x ≤ 9223372036854775807
end Go.Proofs.YtclcajnodoifjaaGreatDoor

