/-
  What came in reads as before where nothing that lay there has changed.
-/
import Derived.Test.YtfcolecglobcdaaGreatDoorLxC
import Derived.ProofKit
import Derived.OpenShut
import Derived.WideKeyArgs
import Derived.Deep.Slices
import Derived.Deep.Strs
import Derived.ChangeOld
import Derived.Lib.SmallJoins
import Derived.Test.YtfcolecglobcdaaGreatDoorLrKx
namespace Go.Proofs.YtfcolecglobcdaaGreatDoor
open Go.ChangeShapes Go.WideShapes Go.ChangeAt Go.RowKit Go.Lib Go.Shelf Go.Joins Go.Deep
set_option maxRecDepth 100000

theorem laidOut' : laidOutB Tryz.prog = true := by kernel_rfl
/-- what came in reads as before where all that lay there is as it was -/
theorem all_stay {H : Type} {enc : TypeId × Value → H} {W W' : World} (hb : Below W.heap.size W W') : ∀ {ts : List TypeId} {vs : List Value} {ds : List (DataW H)} {ps : List MemPlace}, (∀ t ∈ ts, Tryz.prog.readableRec t = true ∧ t < Tryz.prog.types.size) →
    (∀ p ∈ ps, p.block < W.heap.size) → DataW.TrodAll enc Tryz.prog W 0 (fun _ => true) true ts vs ds ps → DataW.TrodAll enc Tryz.prog W' 0 (fun b => decide (b < W.heap.size)) true ts vs ds ps
  | [], [], [], _, _, _, h => h
  | t :: ts, v :: vs, d :: ds, ps, ht, hp, ⟨p, q, h1, h2, e⟩ => by
    subst e
    refine ⟨p, q, WideElems.Trod_stays laidOut' (ht t List.mem_cons_self).1 (ht t List.mem_cons_self).2 h1 (fun x hx => hb.same (hp x (List.mem_append_left _ hx))) (fun x hx => by simpa using hp x (List.mem_append_left _ hx)), ?_, rfl⟩
    exact all_stay hb (fun t h => ht t (List.mem_cons_of_mem _ h)) (fun x hx => hp x (List.mem_append_right _ hx)) h2
  | [], _ :: _, _, _, _, _, h => h.elim
  | [], [], _ :: _, _, _, _, h => h.elim
  | _ :: _, [], _, _, _, _, h => h.elim
  | _ :: _, _ :: _, [], _, _, _, h => h.elim
end Go.Proofs.YtfcolecglobcdaaGreatDoor
namespace Go.Proofs.YtfcolecglobcdaaGreatDoor
open Go.ChangeShapes Go.WideShapes Go.ChangeAt Go.RowKit Go.Lib Go.Shelf Go.Joins Go.Deep
set_option maxRecDepth 100000

theorem cellsVal : Tryz.prog.cellsOf 35 = 3 := by kernel_rfl
theorem cellsTok : Tryz.prog.cellsOf 37 = 8 := by kernel_rfl
theorem fitOf {n : Int} (h : (Lit.int .i64 n).wf = true) : fit n := by
  have := bounds_i64 h
  exact ⟨by omega, by omega⟩
theorem trod_struct6 {H : Type} {enc : TypeId × Value → H} {P : Program} {w : World} {base : Nat} {spare : Nat → Bool} {held : Bool} {t : TypeId} {f0 f1 f2 f3 f4 f5 : Field} {fuel : Nat} {cs : List Value} {x : DataW H × List MemPlace} (ht : P.underlying t = some (.struct #[f0, f1, f2, f3, f4, f5])) (h : DataW.trod enc P w base spare held fuel t cs = some x) :
    ∃ y0 y1 y2 y3 y4 y5 n, x.1 = .agg [y0.1, y1.1, y2.1, y3.1, y4.1, y5.1] ∧ cs.length = P.cellsOf t ∧ DataW.trod enc P w base spare held n f0.type ((cs.drop f0.offset).take (P.cellsOf f0.type)) = some y0 ∧
      DataW.trod enc P w base spare held n f1.type ((cs.drop f1.offset).take (P.cellsOf f1.type)) = some y1 ∧ DataW.trod enc P w base spare held n f2.type ((cs.drop f2.offset).take (P.cellsOf f2.type)) = some y2 ∧
      DataW.trod enc P w base spare held n f3.type ((cs.drop f3.offset).take (P.cellsOf f3.type)) = some y3 ∧ DataW.trod enc P w base spare held n f4.type ((cs.drop f4.offset).take (P.cellsOf f4.type)) = some y4 ∧
      DataW.trod enc P w base spare held n f5.type ((cs.drop f5.offset).take (P.cellsOf f5.type)) = some y5 := by
  obtain ⟨xs, n, _, rfl, hl, hlen, hf⟩ := DataW.trod_struct ht h
  match xs, hlen with
  | [y0, y1, y2, y3, y4, y5], _ => exact ⟨y0, y1, y2, y3, y4, y5, n, by simp, hl, by simpa using hf 0 f0 rfl, by simpa using hf 1 f1 rfl, by simpa using hf 2 f2 rfl, by simpa using hf 3 f3 rfl, by simpa using hf 4 f4 rfl, by simpa using hf 5 f5 rfl⟩
theorem open_vaT {H : Type} {enc : TypeId × Value → H} {W : World} {n : Nat} {cs : List Value} {x : DataW H × List MemPlace} (h : DataW.trod enc Tryz.prog W 0 (fun _ => true) true n 35 cs = some x) :
    ∃ v : Va, cs = [.int .i64 v.ty, .int .i64 v.n, .string v.s] ∧ fit v.n ∧ v.s.size ≤ 9223372036854775807 := by
  obtain ⟨y0, y1, y2, m, _, hl, t0, t1, t2⟩ := trod_struct3 Tryz.underlying35 h
  rw [cellsVal] at hl
  match cs, hl with
  | [c0, c1, c2], _ =>
    have k0 : Tryz.prog.cellsOf 3 = 1 := by kernel_rfl
    have k1 : Tryz.prog.cellsOf 2 = 1 := by kernel_rfl
    have k2 : Tryz.prog.cellsOf 9 = 1 := by kernel_rfl
    have u0 : DataW.trod enc Tryz.prog W 0 (fun _ => true) true m 3 [c0] = some y0 := by simpa [k0] using t0
    have u1 : DataW.trod enc Tryz.prog W 0 (fun _ => true) true m 2 [c1] = some y1 := by simpa [k1] using t1
    have u2 : DataW.trod enc Tryz.prog W 0 (fun _ => true) true m 9 [c2] = some y2 := by simpa [k2] using t2
    obtain ⟨a, e0, _, _⟩ := DataW.trod_int Tryz.underlying3 u0
    obtain ⟨b, e1, _, wb⟩ := DataW.trod_int Tryz.underlying2 u1
    obtain ⟨s, e2, _, ws⟩ := DataW.trod_string Tryz.underlying9 u2
    simp only [List.cons.injEq, and_true] at e0 e1 e2
    subst e0 e1 e2
    exact ⟨⟨a, b, s⟩, rfl, fitOf wb, by unfold maxLen at ws; exact ws⟩
theorem open_tok {H : Type} {enc : TypeId × Value → H} {W : World} {n : Nat} {cs : List Value} {x : DataW H × List MemPlace} (h : DataW.trod enc Tryz.prog W 0 (fun _ => true) true n 37 cs = some x) :
    ∃ (t : Ti) (d0 d2 d3 d4 d5 : DataW H), cs = cellsI t ∧ x.1 = .agg [d0, .lit (.string t.text), d2, d3, d4, d5] ∧ Sz t := by
  obtain ⟨y0, y1, y2, y3, y4, y5, m, hx, hl, t0, t1, t2, t3, t4, t5⟩ := trod_struct6 Tryz.underlying37 h
  rw [cellsTok] at hl
  match cs, hl with
  | [c0, c1, c2, c3, c4, c5, c6, c7], _ =>
    have k0 : Tryz.prog.cellsOf 3 = 1 := by kernel_rfl
    have k2 : Tryz.prog.cellsOf 9 = 1 := by kernel_rfl
    have u0 : DataW.trod enc Tryz.prog W 0 (fun _ => true) true m 3 [c0] = some y0 := by simpa [k0] using t0
    have u1 : DataW.trod enc Tryz.prog W 0 (fun _ => true) true m 9 [c1] = some y1 := by simpa [k2] using t1
    have u2 : DataW.trod enc Tryz.prog W 0 (fun _ => true) true m 35 [c2, c3, c4] = some y2 := by simpa [cellsVal] using t2
    have u3 : DataW.trod enc Tryz.prog W 0 (fun _ => true) true m 3 [c5] = some y3 := by simpa [k0] using t3
    have u4 : DataW.trod enc Tryz.prog W 0 (fun _ => true) true m 3 [c6] = some y4 := by simpa [k0] using t4
    have u5 : DataW.trod enc Tryz.prog W 0 (fun _ => true) true m 3 [c7] = some y5 := by simpa [k0] using t5
    obtain ⟨a, e0, _, _⟩ := DataW.trod_int Tryz.underlying3 u0
    obtain ⟨s, e1, hy1, ws⟩ := DataW.trod_string Tryz.underlying9 u1
    obtain ⟨v, e2, hf, hs⟩ := open_vaT u2
    obtain ⟨p, e3, _, _⟩ := DataW.trod_int Tryz.underlying3 u3
    obtain ⟨q, e4, _, _⟩ := DataW.trod_int Tryz.underlying3 u4
    obtain ⟨r, e5, _, _⟩ := DataW.trod_int Tryz.underlying3 u5
    simp only [List.cons.injEq, and_true] at e0 e1 e2 e3 e4 e5
    obtain ⟨e20, e21, e22⟩ := e2
    subst e0 e1 e20 e21 e22 e3 e4 e5
    have hd : y1.1 = .lit (.string s.data.toList) := congrArg Prod.fst hy1
    refine ⟨⟨a, s.data.toList, v, p, q, r⟩, y0.1, y2.1, y3.1, y4.1, y5.1, ?_, ?_, ⟨hf, hs, ?_⟩⟩
    · simp only [cellsI, ← bytes_of s]
    · rw [hx, hd]
    · unfold maxLen at ws
      rw [Array.length_toList]; exact ws
/-- tokens that came in -/
theorem arg_toks {H : Type} {enc : TypeId × Value → H} {W : World} {base : Nat} {v : Value} {d : DataW H} {p : List MemPlace} (hv : Value.okWide Tryz.prog W .any base 30 v) (h : DataW.Trod enc Tryz.prog W 0 (fun _ => true) true 30 v d p) :
    ∃ (P : Option Addr) (C : Nat) (L : List Ti), v = .slice P L.length C ∧ tokII W P L ∧ (P = none → C = 0) ∧ (P = none → L = []) ∧ L.length ≤ C ∧ (∀ t ∈ L, Sz t) ∧ (L = [] ∨ ∃ (D : Nat → DataW H) (spare : List (DataW H)), d = .slice ((List.range L.length).map D) spare ∧ ∀ i t, L[i]? = some t → ∃ d0 d2 d3 d4 d5, D i = .agg [d0, .lit (.string t.text), d2, d3, d4, d5]) := by
  obtain ⟨a, len, cap, rfl⟩ := okWide_slice Tryz.underlying30 hv
  obtain ⟨n, hn⟩ := h
  rcases open_slice Tryz.underlying30 hn with ⟨hcs, _⟩ | ⟨a', len', cap', m, n', D, Pl, hcs, _, hl, hm, hmm, hx, hc⟩
  · have e : (.slice a len cap : Value) = .slice none 0 0 := by simpa [Value.cells] using hcs
    simp only [Value.slice.injEq] at e
    obtain ⟨rfl, rfl, rfl⟩ := e
    exact ⟨none, 0, [], rfl, Or.inl rfl, fun _ => rfl, fun _ => rfl, Nat.le_refl _, by simp, Or.inl rfl⟩
  · have e : (.slice a len cap : Value) = .slice (some a') len' cap' := by simpa [Value.cells] using hcs
    simp only [Value.slice.injEq] at e
    obtain ⟨rfl, rfl, rfl⟩ := e
    simp only [if_true] at hmm
    subst hmm
    have each : ∀ i, i < len → ∃ t : Ti, (∀ r u, (cellsI t)[r]? = some u → W.cell? ((a'.add (i * 8)).add r) = some u) ∧ Sz t ∧ ∃ d0 d2 d3 d4 d5, D i = .agg [d0, .lit (.string t.text), d2, d3, d4, d5] := by
      intro i hi
      obtain ⟨cs', h1, h2⟩ := hc i (by omega)
      rw [cellsTok] at h1
      obtain ⟨_, _, hcell⟩ := World.cells?_some h1
      obtain ⟨t, d0, d2, d3, d4, d5, rfl, hd, hz⟩ := open_tok h2
      refine ⟨t, fun r u hr => ?_, hz, d0, d2, d3, d4, d5, hd⟩
      have hr8 := (List.getElem?_eq_some_iff.1 hr).1
      have := hcell r (by simpa [cellsI] using hr8)
      rw [this, hr]
    obtain ⟨T, hT⟩ := @choose_lt Ti ⟨⟨0, [], ⟨0, 0, ⟨#[]⟩⟩, 0, 0, 0⟩⟩ _ _ each
    simp only [Prod.mk.injEq] at hx
    refine ⟨some a', m, (List.range len).map T, by simp, ?_, (by intro h; cases h), (by intro h; cases h), by simp; exact hl, ?_, Or.inr ⟨D, (List.range (m - len)).map fun j => D (len + j), by rw [hx.1]; simp, ?_⟩⟩
    · by_cases h0 : len = 0
      · subst h0; exact Or.inl rfl
      · have g0 := (hT 0 (by omega)).1 0 _ rfl
        have hsp : a'.spot = none := by simpa [Addr.add] using World.cell?_spot g0
        obtain ⟨b, off, spot⟩ := a'
        simp only at hsp
        subst hsp
        refine Or.inr ⟨b, off, rfl, fun i t hv => ?_⟩
        have hi : i < len := by have := (List.getElem?_eq_some_iff.1 hv).1; simpa using this
        have ev : T i = t := by simpa [hi] using hv
        subst ev
        have g := (hT i hi).1
        refine ⟨?_, ?_, ?_, ?_, ?_, ?_, ?_, ?_⟩
        · have := g 0 _ rfl; rw [addP, addP] at this; exact this
        · have := g 1 _ rfl; rw [addP, addP] at this; exact this
        · have := g 2 _ rfl; rw [addP, addP] at this; exact this
        · have := g 3 _ rfl; rw [addP, addP] at this; exact this
        · have := g 4 _ rfl; rw [addP, addP] at this; exact this
        · have := g 5 _ rfl; rw [addP, addP] at this; exact this
        · have := g 6 _ rfl; rw [addP, addP] at this; exact this
        · have := g 7 _ rfl; rw [addP, addP] at this; exact this
    · intro t ht
      simp only [List.mem_map, List.mem_range] at ht
      obtain ⟨i, hi, rfl⟩ := ht
      exact (hT i hi).2.1
    · intro i t hv
      have hi : i < len := by have := (List.getElem?_eq_some_iff.1 hv).1; simpa using this
      have ev : T i = t := by simpa [hi] using hv
      subst ev
      exact (hT i hi).2.2
end Go.Proofs.YtfcolecglobcdaaGreatDoor
