/-
 Nodes in memory, taken apart into pieces and put together.
-/
import Derived.Test.YtclcajnodoifjaaGreatDoorIAG
namespace Go.Proofs.YtclcajnodoifjaaGreatDoor
open Go.RowKit Go.Shelf Go.Joins Go.Maps
set_option maxRecDepth 100000

theorem fl_take {α : Type} {enc : α → List Value} {s : Nat} (hs : ∀ x, (enc x).length = s) : ∀ (l : List α) (a : Nat), (fl enc l).take (a * s) = fl enc (l.take a)
 | [], a => by simp [fl]
 | x :: l, 0 => by simp [fl]
 | x :: l, a + 1 => by
  rw [List.take_succ_cons, fl_cons, fl_cons, ← fl_take hs l a, List.take_append]
  rw [hs, Nat.add_mul, Nat.one_mul, Nat.add_sub_cancel, List.take_of_length_le (by rw [hs]; omega)]
theorem fl_drop {α : Type} {enc : α → List Value} {s : Nat} (hs : ∀ x, (enc x).length = s) : ∀ (l : List α) (a : Nat), (fl enc l).drop (a * s) = fl enc (l.drop a)
 | [], a => by simp [fl]
 | x :: l, 0 => by simp [fl]
 | x :: l, a + 1 => by
  rw [List.drop_succ_cons, fl_cons, ← fl_drop hs l a, List.drop_append]
  rw [hs, Nat.add_mul, Nat.one_mul, Nat.add_sub_cancel, List.drop_of_length_le (by rw [hs]; omega), List.nil_append]
/-- a row as a piece -/
theorem rowT.pc {T : Nat → Prop} {w : World} {e : TypeId} {sz n : Nat} {v : Value} {xs : List Value} (h : rowT T w e sz v n xs) (h1 : ∀ u ∈ xs, u.oneCell' = true) : ∃ x : Pc, v = x.v ∧ x.n = n ∧ x.xs = xs ∧ x.ok sz w ∧ x.n ≤ x.c := by
 obtain ⟨p, c, e1, e2, e3, e4⟩ := h.form
 exact ⟨⟨p, n, c, xs⟩, e1, rfl, rfl, ⟨h.1.1, e3, e4, h1⟩, e2⟩
theorem rowT.one {T : Nat → Prop} {w : World} {e : TypeId} {sz n : Nat} {v : Value} {xs : List Value} (h : rowT T w e sz v n xs) : v.oneCell' = true := by
 obtain ⟨_, _, _, _, _, _, h⟩ := h.1.form
 exact h
theorem entIn.pc {T : Nat → Prop} {w : World} {es : List Em} {v : Value} (h : entIn T w es v) : ∃ x : Pc, v = x.v ∧ x.n = es.length ∧ x.xs = fl emE es ∧ x.ok 2 w ∧ x.n ≤ x.c := h.1.pc (fl_one emE_one es)
theorem ndIn.one {T : Nat → Prop} {w : World} : ∀ {d : Nat} {n : Nd Em} {v1 v2 : Value}, ndIn T w d n v1 v2 → v1.oneCell' = true ∧ v2.oneCell' = true
 | 0, _, _, _, h => ⟨h.1.1.one, by rw [h.2.2]; rfl⟩
 | _ + 1, _, _, _, h => ⟨h.1.1.one, by obtain ⟨_, _, _, h3, _⟩ := h; exact h3.one⟩
/-- kids by their two slices each -/
def KidsH (T : Nat → Prop) (w : World) (d : Nat) (ks : List (Nd Em)) (hs : List (Value × Value)) : Prop := hs.length = ks.length ∧ ∀ (i : Nat) (k : Nd Em) (h : Value × Value), ks[i]? = some k → hs[i]? = some h → ndIn T w d k h.1 h.2
theorem KidsH.nil {T : Nat → Prop} {w : World} {d : Nat} : KidsH T w d [] [] := ⟨rfl, fun i k h hk => by simp at hk⟩
theorem KidsH.keeps {T : Nat → Prop} {w w' : World} {d : Nat} {ks : List (Nd Em)} {hs : List (Value × Value)} (h : KidsH T w d ks hs) (hk : Keeps T w w') : KidsH T w' d ks hs := ⟨h.1, fun i k x h1 h2 => (h.2 i k x h1 h2).keeps hk⟩
theorem KidsH.below {T : Nat → Prop} {w w' : World} {d : Nat} {ks : List (Nd Em)} {hs : List (Value × Value)} (h : KidsH T w d ks hs) (hb : Below w.heap.size w w') : KidsH T w' d ks hs := h.keeps (Keeps.of_below hb)
theorem KidsH.app {T : Nat → Prop} {w : World} {d : Nat} {ks ks' : List (Nd Em)} {hs hs' : List (Value × Value)} (h : KidsH T w d ks hs) (h' : KidsH T w d ks' hs') : KidsH T w d (ks ++ ks') (hs ++ hs') := by
 refine ⟨by rw [List.length_append, List.length_append, h.1, h'.1], fun i k x h1 h2 => ?_⟩
 have hl := h.1
 by_cases hi : i < ks.length
 ·rw [List.getElem?_append_left hi] at h1
  rw [List.getElem?_append_left (by omega)] at h2
  exact h.2 i k x h1 h2
 ·rw [List.getElem?_append_right (by omega)] at h1
  rw [List.getElem?_append_right (by omega), hl] at h2
  exact h'.2 _ k x h1 h2
theorem KidsH.take {T : Nat → Prop} {w : World} {d : Nat} {ks : List (Nd Em)} {hs : List (Value × Value)} (h : KidsH T w d ks hs) (a : Nat) : KidsH T w d (ks.take a) (hs.take a) := by
 refine ⟨by rw [List.length_take, List.length_take, h.1], fun i k x h1 h2 => ?_⟩
 rw [List.getElem?_take] at h1 h2
 split at h1
 ·rw [if_pos (by assumption)] at h2
  exact h.2 i k x h1 h2
 ·cases h1
theorem KidsH.drop {T : Nat → Prop} {w : World} {d : Nat} {ks : List (Nd Em)} {hs : List (Value × Value)} (h : KidsH T w d ks hs) (a : Nat) : KidsH T w d (ks.drop a) (hs.drop a) := by
 refine ⟨by rw [List.length_drop, List.length_drop, h.1], fun i k x h1 h2 => ?_⟩
 rw [List.getElem?_drop] at h1 h2
 exact h.2 _ k x h1 h2
theorem KidsH.cons {T : Nat → Prop} {w : World} {d : Nat} {k : Nd Em} {x : Value × Value} {ks : List (Nd Em)} {hs : List (Value × Value)} (h0 : ndIn T w d k x.1 x.2) (h : KidsH T w d ks hs) : KidsH T w d (k :: ks) (x :: hs) := by
 refine ⟨by rw [List.length_cons, List.length_cons, h.1], fun i k' x' h1 h2 => ?_⟩
 cases i with
 | zero => simp at h1 h2; subst h1 h2; exact h0
 | succ i => exact h.2 i k' x' (by simpa using h1) (by simpa using h2)
theorem KidsH.one {T : Nat → Prop} {w : World} {d : Nat} {ks : List (Nd Em)} {hs : List (Value × Value)} (h : KidsH T w d ks hs) : ∀ u ∈ fl hdE hs, u.oneCell' = true := by
 intro u hu
 simp only [fl, List.mem_flatMap] at hu
 obtain ⟨x, hx, hu⟩ := hu
 obtain ⟨i, hi⟩ := List.mem_iff_getElem?.1 hx
 have hl := (List.getElem?_eq_some_iff.1 hi).1
 have hk := List.getElem?_eq_getElem (l := ks) (i := i) (by have := h.1; omega)
 have := (h.2 i _ x hk hi).one
 simp only [hdE, List.mem_cons, List.not_mem_nil, or_false] at hu
 rcases hu with rfl | rfl
 ·exact this.1
 ·exact this.2
/-- a node's kids as a piece -/
theorem ndIn.kids {T : Nat → Prop} {w : World} {d : Nat} {n : Nd Em} {v1 v2 : Value} (h : ndIn T w d n v1 v2) : ∃ (x : Pc) (hs : List (Value × Value)), v2 = x.v ∧ x.n = n.ks.length ∧ x.xs = fl hdE hs ∧ x.ok 2 w ∧ x.n ≤ x.c ∧ KidsH T w (d - 1) n.ks hs ∧ (d = 0 → n.ks = []) := by
 cases d with
 | zero =>
  obtain ⟨_, h2, h3⟩ := h
  refine ⟨⟨none, 0, 0, []⟩, [], h3, by rw [h2]; rfl, rfl, ⟨rfl, fun _ => ⟨rfl, rfl⟩, (fun ad e => by cases e), (fun u hu => by cases hu)⟩, Nat.le_refl _, by rw [h2]; exact KidsH.nil, fun _ => h2⟩
 | succ d =>
  obtain ⟨_, hs, h2, h3, h4⟩ := h
  have hk : KidsH T w d n.ks hs := ⟨h2, h4⟩
  obtain ⟨x, e1, e2, e3, e4, e5⟩ := h3.pc hk.one
  exact ⟨x, hs, e1, e2, e3, e4, e5, hk, fun e => by omega⟩
/-- a new row is one in T -/
theorem Nw.row_in {T : Nat → Prop} {w0 w : World} {e sz n : Nat} {v : Value} {xs : List Value} (h : Nw w0 w e sz v n xs) (hT : ∀ b, w0.heap.size ≤ b → T b) : rowT T w e sz v n xs := ⟨h.row, fun g hg => hT g (h.new g hg)⟩
theorem ent_of {T : Nat → Prop} {w0 w : World} {es : List Em} {v : Value} (h : Nw w0 w 65 2 v es.length (fl emE es)) (hT : ∀ b, w0.heap.size ≤ b → T b) (hk : ∀ q ∈ es, KeyOk T w q) : entIn T w es v := ⟨h.row_in hT, hk⟩
theorem nd_of {T : Nat → Prop} {w0 w : World} {d : Nat} {es : List Em} {ks : List (Nd Em)} {v1 v2 : Value} {hs : List (Value × Value)} (h1 : entIn T w es v1) (h2 : Nw w0 w 60 2 v2 ks.length (fl hdE hs)) (hT : ∀ b, w0.heap.size ≤ b → T b) (hk : KidsH T w (d - 1) ks hs) (h0 : d = 0 → ks = []) (hn : ks.length = 0 → v2 = .slice none 0 0) : ndIn T w d (.mk es ks) v1 v2 := by
 cases d with
 | zero => exact ⟨h1, h0 rfl, hn (by rw [h0 rfl]; rfl)⟩
 | succ d => exact ⟨h1, hs, hk.1, h2.row_in hT, hk.2⟩
/-- two cells of a block of which nothing hangs -/
theorem Keeps.set {T : Nat → Prop} {w : World} {a : Addr} (v : Value) (h : ¬ T a.block) : Keeps T w (w.setCell a v) := Keeps.of_chg (Chg.of_cell w a v) (fun b hb _ e => by subst e; exact h hb)
/-- what comes back -/
def NdQ (T : Nat → Prop) (w : World) (d : Nat) (n : Nd Em) (en : Ending) (w' : World) : Prop := ∃ r1 r2, en = .returned (.agg #[r1, r2]) ∧ ndIn T w' d n r1 r2 ∧ Below w.heap.size w w'
theorem below_set {base : Nat} {w w' : World} (h : Below base w w') (a : Addr) (v : Value) (ha : base ≤ a.block) : Below base w (w'.setCell a v) :=
 ⟨h.os, h.tape, h.output, by simpa using h.size, fun k hk => (heap_setCell_other w' a k v (by omega)).trans (h.block k hk)⟩
/-- the result's cells are written -/
theorem NdQ.ret {T : Nat → Prop} {w W : World} {M d : Nat} {n : Nd Em} {r1 r2 : Value} (hM : w.heap.size ≤ M) (h : ndIn (fun b => T b ∧ b ≠ M) W d n r1 r2) (hb : Below w.heap.size w W) : NdQ T w d n (.returned (.agg #[r1, r2])) ((W.setCell ⟨M, 0, none⟩ r1).setCell ⟨M, 1, none⟩ r2) := by
 refine ⟨r1, r2, rfl, ?_, below_set (below_set hb _ _ hM) _ _ hM⟩
 have k1 : Keeps (fun b => T b ∧ b ≠ M) W (W.setCell ⟨M, 0, none⟩ r1) := Keeps.set _ (fun h => h.2 rfl)
 have k2 : Keeps (fun b => T b ∧ b ≠ M) (W.setCell ⟨M, 0, none⟩ r1) ((W.setCell ⟨M, 0, none⟩ r1).setCell ⟨M, 1, none⟩ r2) := Keeps.set _ (fun h => h.2 rfl)
 exact (h.keeps (k1.trans k2)).mono (fun b _ h => h.1)
/-- a node that came in lies in none of the new blocks -/
theorem ndIn.off {T : Nat → Prop} {w : World} {d M : Nat} {n : Nd Em} {v1 v2 : Value} (h : ndIn T w d n v1 v2) (hM : w.heap.size ≤ M) : ndIn (fun b => T b ∧ b ≠ M) w d n v1 v2 := h.mono (fun b hb ht => ⟨ht, by omega⟩)
theorem KeyOk.off {T : Nat → Prop} {w : World} {M : Nat} {q : Em} (h : KeyOk T w q) (hM : w.heap.size ≤ M) : KeyOk (fun b => T b ∧ b ≠ M) w q := h.mono (fun b hb ht => ⟨ht, by omega⟩)
/-- slices in a new block -/
theorem pcs_new (w : World) (l : List Pc) (t : TypeId) : pcsAt (w.alloc (.cells (l.map Pc.v).toArray t)) w.heap.size l := by
 refine ⟨by simp, fun i x hx => ?_⟩
 rw [cell_of_block (heap_alloc_new w _)]
 simp [hx]
theorem pcsAt.below {w w' : World} {G : Nat} {l : List Pc} (h : pcsAt w G l) (hb : Below w.heap.size w w') : pcsAt w' G l := ⟨Nat.lt_of_lt_of_le h.1 hb.size, fun i x hx => (hb.cell (p := ⟨G, i, none⟩) h.1).trans (h.2 i x hx)⟩
/-- cells in a new block as a piece -/
theorem pc_new (w : World) (n : Nat) (xs : List Value) (t : TypeId) (sz : Nat) (hl : xs.length = n * sz) (h1 : ∀ u ∈ xs, u.oneCell' = true) : Pc.ok sz (w.alloc (.cells xs.toArray t)) ⟨some ⟨w.heap.size, 0, none⟩, n, n, xs⟩ := by
 refine ⟨hl, (fun e => by cases e), fun ad e => ?_, h1⟩
 cases e
 refine ⟨_, _, rfl, by simp, fun j u hj => ?_⟩
 rw [cell_of_block (heap_alloc_new w _)]
 simpa using hj
theorem KidsH.mono {T U : Nat → Prop} {w : World} {d : Nat} {ks : List (Nd Em)} {hs : List (Value × Value)} (h : KidsH T w d ks hs) (hu : ∀ b, b < w.heap.size → T b → U b) : KidsH U w d ks hs := ⟨h.1, fun i k x h1 h2 => (h.2 i k x h1 h2).mono hu⟩
theorem KidsH.off {T : Nat → Prop} {w : World} {d M : Nat} {ks : List (Nd Em)} {hs : List (Value × Value)} (h : KidsH T w d ks hs) (hM : w.heap.size ≤ M) : KidsH (fun b => T b ∧ b ≠ M) w d ks hs := h.mono (fun b hb ht => ⟨ht, by omega⟩)
/-- a node of two new rows comes back -/
theorem fin_node {T : Nat → Prop} {w w0 wm W : World} {M d : Nat} {es : List Em} {ks : List (Nd Em)} {hs : List (Value × Value)} {v1 v2 : Value} (hM : w.heap.size ≤ M) (hb : Below w.heap.size w W) (hm : Below wm.heap.size wm W) (k1 : ∀ q ∈ es, KeyOk (fun b => T b ∧ b ≠ M) wm q) (k2 : KidsH (fun b => T b ∧ b ≠ M) wm (d - 1) ks hs) (h0 : d = 0 → ks = []) (hT : ∀ b, w0.heap.size ≤ b → T b ∧ b ≠ M)
  (n1 : Nw w0 W 65 2 v1 es.length (fl emE es)) (n2 : Nw w0 W 60 2 v2 ks.length (fl hdE hs)) (z2 : ks.length = 0 → v2 = .slice none 0 0) : NdQ T w d (.mk es ks) (.returned (.agg #[v1, v2])) ((W.setCell ⟨M, 0, none⟩ v1).setCell ⟨M, 1, none⟩ v2) :=
 NdQ.ret hM (nd_of (ent_of n1 hT (fun q hq => (k1 q hq).keeps (Keeps.of_below hm))) n2 hT (k2.below hm) h0 z2) hb
/-- what a Concat of pieces is -/
def CcN (w : World) (e sz m : Nat) (ys : List Value) (en : Ending) (w' : World) : Prop := ∃ p c, en = .returned (.slice p m c) ∧ Nw w w' e sz (.slice p m c) m ys ∧ (m = 0 → p = none ∧ c = 0) ∧ Below w.heap.size w w'
theorem cc_nw {w w' : World} {e sz n m : Nat} {xs ys : List Value} {en : Ending} (h : CcQ w e sz n xs en w') (hn : n = m) (hx : xs = ys) : CcN w e sz m ys en w' := by
 subst hn hx
 obtain ⟨v, h1, h2, h3, h4, h5⟩ := h
 obtain ⟨p, c, e1, _⟩ := h2.form
 subst e1
 exact ⟨p, c, h1, ⟨h2, h3⟩, fun e => by cases h5 e; exact ⟨rfl, rfl⟩, h4⟩
end Go.Proofs.YtclcajnodoifjaaGreatDoor

