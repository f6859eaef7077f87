/-
  What expr.Parts keeps while it goes: the conditions so far.
-/
import Derived.Test.YtokppkinhlcafaaGreatDoorExP
import Derived.Test.YtokppkinhlcafaaGreatDoorEfR
namespace Go.Proofs.YtokppkinhlcafaaGreatDoor
open Go.RowKit Go.Joins
set_option maxRecDepth 100000

/-- nine cells of nothing -/
abbrev z9 : List Value := [.string ⟨#[]⟩, .slice none 0 0, .int .i64 0, .int .i64 0, .string ⟨#[]⟩, .string ⟨#[]⟩, .string ⟨#[]⟩, .int .i64 0, .int .i64 0]
/-- of what lay there one block alone has changed -/
structure Sto (pb : Nat) (W w : World) : Prop where
  os : w.os = W.os
  tape : w.tape = W.tape
  output : w.output = W.output
  size : W.heap.size ≤ w.heap.size
  block : ∀ k, k < W.heap.size → k ≠ pb → w.heap[k]? = W.heap[k]?
theorem Sto.below {pb : Nat} {W w w1 : World} (h : Sto pb W w) (hb : Below w.heap.size w w1) : Sto pb W w1 :=
  ⟨hb.os.trans h.os, hb.tape.trans h.tape, hb.output.trans h.output, Nat.le_trans h.size hb.size, fun k hk hp => (hb.block k (Nat.lt_of_lt_of_le hk h.size)).trans (h.block k hk hp)⟩
theorem Sto.cell {pb : Nat} {W w : World} (h : Sto pb W w) {q o : Nat} {u : Value} (hq : q ≠ pb) (hc : W.cell? ⟨q, o, none⟩ = some u) : w.cell? ⟨q, o, none⟩ = some u := by
  rw [← hc]
  exact World.cell?_of_block (h.block q (World.block_lt_of_cell? _ _ hc) hq)
theorem Sto.grown {pb : Nat} {W w w1 : World} {r : Option Nat} (h : Sto pb W w) (hg : w.grownBy w1 r) (hr : ∀ q, r = some q → W.heap.size ≤ q ∨ q = pb) : Sto pb W w1 :=
  ⟨hg.os.trans h.os, hg.tape.trans h.tape, hg.output.trans h.output, Nat.le_trans h.size hg.size, fun k hk hp => (hg.block k (Nat.lt_of_lt_of_le hk h.size) (fun e => by rcases hr k e.symm with h1 | h1 <;> omega)).trans (h.block k hk hp)⟩
theorem nine.sto {pb : Nat} {W w : World} {p s : Nat} {x : Ex} {P : Option Addr} {C : Nat} (h : nine W p s x P C) (hs : Sto pb W w) (hp : p ≠ pb) : nine w p s x P C := by
  obtain ⟨h0, h1, h2, h3, h4, h5, h6, h7, h8⟩ := h
  exact ⟨hs.cell hp h0, hs.cell hp h1, hs.cell hp h2, hs.cell hp h3, hs.cell hp h4, hs.cell hp h5, hs.cell hp h6, hs.cell hp h7, hs.cell hp h8⟩
/-- the conditions so far, in a row of one's own; the variable that holds it -/
def PaS (W w : World) (pb n : Nat) (l : List Ex) : Prop := Sto pb W w ∧ ∃ v xs, w.heap[pb]? = some (.cells #[v] 22 (0, 0)) ∧ w.ownsRow W.heap.size 26 9 v l.length xs ∧ els w (fun q => W.heap.size ≤ q ∧ q < w.heap.size ∧ v.ownBlock ≠ some q) n l xs
theorem PaS.drew {W w : World} {pb n : Nat} {l : List Ex} (h : PaS W w pb n l) : PaS W w.drew pb n l := by
  obtain ⟨h1, v, xs, h2, h3, h4⟩ := h
  exact ⟨⟨h1.os, h1.tape, h1.output, h1.size, h1.block⟩, v, xs, h2, h3.drew, h4.map (fun x cs hx => exIn.map (w := w) (w' := w.drew) (fun _ _ _ _ hc => hc) (fun _ h => h) hx)⟩
/-- one more behind them, but for its cells and the variable -/
def PaM (W w3 : World) (pb n : Nat) (l : List Ex) (x : Ex) (v : Value) (g cap : Nat) (P1 : Option Addr) (C1 : Nat) : Prop := Sto pb W w3 ∧ w3.heap[pb]? = some (.cells #[v] 22 (0, 0)) ∧ ∃ xs, xs.length = l.length * 9 ∧ w3.ownsRow W.heap.size 26 9 (.slice (some ⟨g, 0, none⟩) (l.length + 1) cap) (l.length + 1) (xs ++ z9) ∧ els w3 (fun q => W.heap.size ≤ q ∧ q < w3.heap.size ∧ (Value.slice (some ⟨g, 0, none⟩) (l.length + 1) cap).ownBlock ≠ some q) n l xs ∧ exIn w3 (fun q => W.heap.size ≤ q ∧ q < w3.heap.size ∧ (Value.slice (some ⟨g, 0, none⟩) (l.length + 1) cap).ownBlock ≠ some q) n x (exC x P1 C1)
theorem zero_ones : ∀ u ∈ z9, u.oneCell' = true := by
  intro u hu
  simp only [List.mem_cons, List.not_mem_nil, or_false] at hu
  rcases hu with rfl | rfl | rfl | rfl | rfl | rfl | rfl | rfl | rfl <;> rfl
theorem own_some {w : World} {base n : Nat} {v : Value} {xs : List Value} (h : w.ownsRow base 26 9 v n xs) (hn : 0 < n) : ∃ g C, v = .slice (some ⟨g, 0, none⟩) n C := by
  rcases h.2 with ⟨rfl, rfl⟩ | ⟨g, cap, cur, rfl, _⟩
  · omega
  · exact ⟨_, _, rfl⟩
theorem PaM.made {W w0 X : World} {pb n Z : Nat} {l : List Ex} {x : Ex} {v : Value} {xs : List Value} {P1 : Option Addr} {C1 : Nat} (hs : Sto pb W w0) (hpW : pb < W.heap.size) (hp : w0.heap[pb]? = some (.cells #[v] 22 (0, 0))) (ho : w0.ownsRow W.heap.size 26 9 v l.length xs) (he : els w0 (fun q => W.heap.size ≤ q ∧ q < w0.heap.size ∧ v.ownBlock ≠ some q) n l xs) (hb : Below w0.heap.size w0 X)
    (hZ : X.heap[Z]? = some (.cells #[.string ⟨#[]⟩, .slice none 0 0, .int .i64 0, .int .i64 0, .string ⟨#[]⟩, .string ⟨#[]⟩, .string ⟨#[]⟩, .int .i64 0, .int .i64 0] 26 (0, 0))) (ix : exIn X (fun q => w0.heap.size ≤ q ∧ q < X.heap.size) n x (exC x P1 C1)) (hl : l.length + 1 ≤ 100000000) :
    ∃ g cap w3, (∀ ty, (Builtin.append_ #[22, 22] ty #[v, .slice (some ⟨Z, 0, none⟩) 1 1]).run Tryz.prog X = .ok (.slice (some ⟨g, 0, none⟩) (l.length + 1) cap) w3) ∧ PaM W w3 pb n l x v g cap P1 C1 := by
  obtain ⟨i0, hi, hz0, hz1, hz2⟩ := info_parts exInfo
  have s0 := hs.size
  have s1 := hb.size
  have key := fun ty => run_append_own_at (P := Tryz.prog) X W.heap.size 22 ty 26 i0 _ 9 120 exSlice hi hz0 hz1 hz2 rfl (by decide) v l.length xs (own_belowX ho hb) ⟨Z, 0, none⟩ 1 1 z9 rfl (fun j u hj => by rw [add_plain, Nat.zero_add, cell_of_block hZ]; exact (List.getElem?_toArray (xs := z9)).trans hj) zero_ones (by unfold maxLen; omega) (by omega) (by omega)
  obtain ⟨v', w3, e1, e2, e3, _, e4⟩ := key 0
  obtain ⟨g, cap, rfl⟩ := own_some e2 (Nat.succ_pos _)
  have hv : ∀ q, v.ownBlock = some q → W.heap.size ≤ q ∧ q < w0.heap.size := fun q hq => own_lt ho hq
  have s3 := e3.size
  refine ⟨g, cap, w3, fun ty => e1, (hs.below hb).grown e3 (fun q hq => Or.inl (hv q hq).1), ?_, xs, ho.1, e2, ?_, ?_⟩
  · refine (e3.block _ (by omega) (fun e => ?_)).trans ((hb.block _ (by omega)).trans hp)
    have := (hv _ e.symm).1; omega
  · refine he.map (fun y cs hy => exIn.map (fun q o u hq hc => e3.cell hc (fun e => hq.2.2 e.symm)) (fun q hq => ⟨hq.1, by omega, ?_⟩) (hy.below hb))
    rcases e4 with e | e
    · rw [e]; exact hq.2.2
    · rw [e]; intro e2; cases e2; omega
  · refine exIn.map (fun q o u hq hc => e3.cell hc (fun e => ?_)) (fun q hq => ⟨by omega, by omega, ?_⟩) ix
    · have h9 : q < w0.heap.size := (hv _ e.symm).2
      omega
    · rcases e4 with e | e
      · rw [e]; intro e2; have := (hv _ e2).2; omega
      · rw [e]; intro e2; cases e2; omega
theorem PaM.end_ {W w3 Z : World} {pb n : Nat} {l : List Ex} {x : Ex} {v : Value} {g cap : Nat} {P1 : Option Addr} {C1 : Nat} (hl : ∀ xs : List Value, xs.length = l.length * 9 → w3.ownsRow W.heap.size 26 9 (.slice (some ⟨g, 0, none⟩) (l.length + 1) cap) (l.length + 1) (xs ++ z9) → Z.ownsRow W.heap.size 26 9 (.slice (some ⟨g, 0, none⟩) (l.length + 1) cap) (l.length + 1) (put9 (xs ++ z9) (l.length * 9) (.string x.op) (.slice P1 x.parts.length C1) (.int .i64 x.vt) (.int .i64 x.vn) (.string x.vs) (.string x.nm) (.string x.of) (.int .i64 x.ty) (.int .i64 x.at_))) (h : PaM W w3 pb n l x v g cap P1 C1) (hos : Z.os = w3.os) (htp : Z.tape = w3.tape) (hop : Z.output = w3.output) (hsz : Z.heap.size = w3.heap.size) (hbk : ∀ k, k ≠ pb → k ≠ g → Z.heap[k]? = w3.heap[k]?) (hpb : Z.heap[pb]? = some (.cells #[.slice (some ⟨g, 0, none⟩) (l.length + 1) cap] 22 (0, 0))) (hpW : pb < W.heap.size) : PaS W Z pb n (l ++ [x]) := by
  obtain ⟨h1, _, xs, hx, h3, h4, h5⟩ := h
  have hg := own_lt h3 (g := g) rfl
  have cl : ∀ q o u, q ≠ pb → q ≠ g → w3.cell? ⟨q, o, none⟩ = some u → Z.cell? ⟨q, o, none⟩ = some u := fun q o u h1 h2 hc => by
    rw [← hc]; exact World.cell?_of_block (hbk q h1 h2)
  have mp : ∀ (y : Ex) (cs : List Value), exIn w3 (fun q => W.heap.size ≤ q ∧ q < w3.heap.size ∧ (Value.slice (some ⟨g, 0, none⟩) (l.length + 1) cap).ownBlock ≠ some q) n y cs → exIn Z (fun q => W.heap.size ≤ q ∧ q < Z.heap.size ∧ (Value.slice (some ⟨g, 0, none⟩) (l.length + 1) cap).ownBlock ≠ some q) n y cs := fun y cs hy => exIn.map (fun q o u hq hc => cl q o u (by omega) (fun e => hq.2.2 (by rw [e]; rfl)) hc) (fun q hq => ⟨hq.1, by omega, hq.2.2⟩) hy
  have hll : (l ++ [x]).length = l.length + 1 := by simp
  refine ⟨⟨hos.trans h1.os, htp.trans h1.tape, hop.trans h1.output, by have := h1.size; omega, fun k hk hp => (hbk k hp (by omega)).trans (h1.block k hk hp)⟩, _, _, hpb, by rw [hll]; exact hl xs hx h3, fun j y hj => ?_⟩
  by_cases hjl : j < l.length
  · rw [List.getElem?_append_left hjl] at hj
    obtain ⟨Py, Cy, h6, h7⟩ := h4 j y hj
    refine ⟨Py, Cy, mp y _ h6, fun r u hr => ?_⟩
    have hrl : r < 9 := by have := (List.getElem?_eq_some_iff.1 hr).1; rwa [h6.len] at this
    rw [put9_out (by omega), List.getElem?_append_left (by omega)]
    exact h7 r u hr
  · rw [List.getElem?_append_right (by omega)] at hj
    have hj0 : j - l.length = 0 := by
      have := (List.getElem?_eq_some_iff.1 hj).1
      simp at this; omega
    rw [hj0] at hj
    cases hj
    obtain rfl : l.length = j := by omega
    exact ⟨P1, C1, mp _ _ h5, fun r u hr => put9_in (by rw [List.length_append, hx]; simp) rfl hr⟩
theorem own_same {w : World} {base n : Nat} {v : Value} {xs ys : List Value} (h : w.ownsRow base 26 9 v n xs) (k : w.ownsRow base 26 9 v n ys) : xs = ys := by
  rcases h.2 with ⟨rfl, rfl⟩ | ⟨g, cap, cur, rfl, _⟩
  · have e1 : xs = [] := List.eq_nil_of_length_eq_zero (by simpa using h.1)
    have e2 : ys = [] := List.eq_nil_of_length_eq_zero (by simpa using k.1)
    rw [e1, e2]
  · apply List.ext_getElem?
    intro j
    by_cases hj : j < n * 9
    · rw [← h.cellAt j hj, ← k.cellAt j hj]
    · rw [List.getElem?_eq_none (by rw [h.1]; omega), List.getElem?_eq_none (by rw [k.1]; omega)]
theorem PaM.a {W w3 : World} {pb n : Nat} {l : List Ex} {x : Ex} {v : Value} {g cap : Nat} {P1 : Option Addr} {C1 : Nat} (h : PaM W w3 pb n l x v g cap P1 C1) (hpW : pb < W.heap.size) : PaS W ((((((((((w3.setCell ⟨g, l.length * 9, none⟩ (.string x.op)).setCell ⟨g, l.length * 9 + 1, none⟩ (.slice P1 x.parts.length C1)).setCell ⟨g, l.length * 9 + 2, none⟩ (.int .i64 x.vt)).setCell ⟨g, l.length * 9 + 3, none⟩ (.int .i64 x.vn)).setCell ⟨g, l.length * 9 + 4, none⟩ (.string x.vs)).setCell ⟨g, l.length * 9 + 5, none⟩ (.string x.nm)).setCell ⟨g, l.length * 9 + 6, none⟩ (.string x.of)).setCell ⟨g, l.length * 9 + 7, none⟩ (.int .i64 x.ty)).setCell ⟨g, l.length * 9 + 8, none⟩ (.int .i64 x.at_)).setCell ⟨pb, 0, none⟩ (.slice (some ⟨g, 0, none⟩) (l.length + 1) cap)) pb n (l ++ [x]) := by
  obtain ⟨V, hV⟩ : ∃ V, V = (((((((((w3.setCell ⟨g, l.length * 9, none⟩ (.string x.op)).setCell ⟨g, l.length * 9 + 1, none⟩ (.slice P1 x.parts.length C1)).setCell ⟨g, l.length * 9 + 2, none⟩ (.int .i64 x.vt)).setCell ⟨g, l.length * 9 + 3, none⟩ (.int .i64 x.vn)).setCell ⟨g, l.length * 9 + 4, none⟩ (.string x.vs)).setCell ⟨g, l.length * 9 + 5, none⟩ (.string x.nm)).setCell ⟨g, l.length * 9 + 6, none⟩ (.string x.of)).setCell ⟨g, l.length * 9 + 7, none⟩ (.int .i64 x.ty)).setCell ⟨g, l.length * 9 + 8, none⟩ (.int .i64 x.at_)) := ⟨_, rfl⟩
  obtain ⟨h1, hv, xs, hx, h3, h4, h5⟩ := id h
  have hg := own_lt h3 (g := g) rfl
  obtain ⟨o9, g9⟩ := own9 (k := l.length * 9) (v0 := (.string x.op)) (v1 := (.slice P1 x.parts.length C1)) (v2 := (.int .i64 x.vt)) (v3 := (.int .i64 x.vn)) (v4 := (.string x.vs)) (v5 := (.string x.nm)) (v6 := (.string x.of)) (v7 := (.int .i64 x.ty)) (v8 := (.int .i64 x.at_)) h3
  rw [← hV] at o9 g9 ⊢
  have hfV : Off g g w3 V := by rw [hV]; exact ((((((((((Off.refl g g w3).set (Or.inl rfl) _).set (Or.inl rfl) _).set (Or.inl rfl) _).set (Or.inl rfl) _).set (Or.inl rfl) _).set (Or.inl rfl) _).set (Or.inl rfl) _).set (Or.inl rfl) _).set (Or.inl rfl) _)
  clear hV
  have hf := (Off.refl pb pb V).set (a := ⟨pb, 0, none⟩) (Or.inl rfl) (.slice (some ⟨g, 0, none⟩) (l.length + 1) cap)
  have z1 := hfV.size
  have z2 := hf.size
  refine PaM.end_ (w3 := w3) (fun ys hy ho => ?_) h (hf.os.trans hfV.os) (hf.tape.trans hfV.tape) (hf.output.trans hfV.output) (by omega) (fun k hp hk => (hf.block k hp hp).trans (hfV.block k hk hk)) (heap_set_inX ((hfV.block _ (by omega) (by omega)).trans hv)) hpW
  obtain ⟨o9', _⟩ := own9 (k := l.length * 9) (v0 := (.string x.op)) (v1 := (.slice P1 x.parts.length C1)) (v2 := (.int .i64 x.vt)) (v3 := (.int .i64 x.vn)) (v4 := (.string x.vs)) (v5 := (.string x.nm)) (v6 := (.string x.of)) (v7 := (.int .i64 x.ty)) (v8 := (.int .i64 x.at_)) ho
  exact World.ownsRow.kept (row := some pb) (by rw [show ys = xs from List.append_cancel_right (own_same ho h3)]; exact o9) ⟨hf.os, hf.tape, hf.output, by omega, fun k _ hk => hf.block k (fun e => hk (by rw [e])) (fun e => hk (by rw [e]))⟩ (Or.inr fun e => by have e2 : g = pb := Option.some.inj e; omega)
theorem PaM.b {W w3 : World} {pb n : Nat} {l : List Ex} {x : Ex} {v : Value} {g cap : Nat} {P1 : Option Addr} {C1 : Nat} (h : PaM W w3 pb n l x v g cap P1 C1) (hpW : pb < W.heap.size) : PaS W ((((((((((w3.setCell ⟨pb, 0, none⟩ (.slice (some ⟨g, 0, none⟩) (l.length + 1) cap)).setCell ⟨g, l.length * 9, none⟩ (.string x.op)).setCell ⟨g, l.length * 9 + 1, none⟩ (.slice P1 x.parts.length C1)).setCell ⟨g, l.length * 9 + 2, none⟩ (.int .i64 x.vt)).setCell ⟨g, l.length * 9 + 3, none⟩ (.int .i64 x.vn)).setCell ⟨g, l.length * 9 + 4, none⟩ (.string x.vs)).setCell ⟨g, l.length * 9 + 5, none⟩ (.string x.nm)).setCell ⟨g, l.length * 9 + 6, none⟩ (.string x.of)).setCell ⟨g, l.length * 9 + 7, none⟩ (.int .i64 x.ty)).setCell ⟨g, l.length * 9 + 8, none⟩ (.int .i64 x.at_)) pb n (l ++ [x]) := by
  obtain ⟨V, hV⟩ : ∃ V, V = w3.setCell ⟨pb, 0, none⟩ (.slice (some ⟨g, 0, none⟩) (l.length + 1) cap) := ⟨_, rfl⟩
  obtain ⟨h1, hv, xs, hx, h3, h4, h5⟩ := id h
  have hg := own_lt h3 (g := g) rfl
  have hf : Off pb pb w3 V := by rw [hV]; exact (Off.refl pb pb w3).set (Or.inl rfl) _
  have hpV : V.heap[pb]? = some (.cells #[.slice (some ⟨g, 0, none⟩) (l.length + 1) cap] 22 (0, 0)) := by rw [hV]; exact heap_set_inX hv
  rw [← hV]
  clear hV
  have z1 := hf.size
  have hk : V.ownsRow W.heap.size 26 9 (.slice (some ⟨g, 0, none⟩) (l.length + 1) cap) (l.length + 1) (xs ++ z9) := World.ownsRow.kept (row := some pb) h3 ⟨hf.os, hf.tape, hf.output, by omega, fun k _ hk => hf.block k (fun e => hk (by rw [e])) (fun e => hk (by rw [e]))⟩ (Or.inr fun e => by have e2 : g = pb := Option.some.inj e; omega)
  obtain ⟨o9, g9⟩ := own9 (k := l.length * 9) (v0 := (.string x.op)) (v1 := (.slice P1 x.parts.length C1)) (v2 := (.int .i64 x.vt)) (v3 := (.int .i64 x.vn)) (v4 := (.string x.vs)) (v5 := (.string x.nm)) (v6 := (.string x.of)) (v7 := (.int .i64 x.ty)) (v8 := (.int .i64 x.at_)) hk
  obtain ⟨U, hU⟩ : ∃ U, U = (((((((((V.setCell ⟨g, l.length * 9, none⟩ (.string x.op)).setCell ⟨g, l.length * 9 + 1, none⟩ (.slice P1 x.parts.length C1)).setCell ⟨g, l.length * 9 + 2, none⟩ (.int .i64 x.vt)).setCell ⟨g, l.length * 9 + 3, none⟩ (.int .i64 x.vn)).setCell ⟨g, l.length * 9 + 4, none⟩ (.string x.vs)).setCell ⟨g, l.length * 9 + 5, none⟩ (.string x.nm)).setCell ⟨g, l.length * 9 + 6, none⟩ (.string x.of)).setCell ⟨g, l.length * 9 + 7, none⟩ (.int .i64 x.ty)).setCell ⟨g, l.length * 9 + 8, none⟩ (.int .i64 x.at_)) := ⟨_, rfl⟩
  rw [← hU] at o9 g9 ⊢
  have hfU : Off g g V U := by rw [hU]; exact ((((((((((Off.refl g g V).set (Or.inl rfl) _).set (Or.inl rfl) _).set (Or.inl rfl) _).set (Or.inl rfl) _).set (Or.inl rfl) _).set (Or.inl rfl) _).set (Or.inl rfl) _).set (Or.inl rfl) _).set (Or.inl rfl) _)
  clear hU
  have z2 := hfU.size
  refine PaM.end_ (w3 := w3) (fun ys hy ho => ?_) h (hfU.os.trans hf.os) (hfU.tape.trans hf.tape) (hfU.output.trans hf.output) (by omega) (fun k hp hk => (hfU.block k hk hk).trans (hf.block k hp hp)) ((hfU.block _ (by omega) (by omega)).trans hpV) hpW
  rw [show ys = xs from List.append_cancel_right (own_same ho h3)]; exact o9
end Go.Proofs.YtokppkinhlcafaaGreatDoor
