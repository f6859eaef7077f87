/-
  Rows, and lists of rows, that came in; what reads as before where nothing that lay there has changed.
-/
import Derived.Test.YtjdnbgnjgicbbaaDoorRcL
import Derived.ProofKit
import Derived.OpenShut
import Derived.WideKeyArgs
import Derived.Deep.Slices
import Derived.Deep.Strs
import Derived.ChangeOld
import Derived.Lib.SmallJoins
namespace Go.Proofs.YtjdnbgnjgicbbaaDoor
open Go.ChangeShapes Go.WideShapes Go.ChangeAt Go.RowKit Go.Lib Go.Shelf Go.Joins Go.Deep
set_option maxRecDepth 100000

theorem cellsV : Tryd.prog.cellsOf 23 = 3 := by kernel_rfl
theorem cellsRow : Tryd.prog.cellsOf 46 = 1 := by kernel_rfl
theorem laidOut' : laidOutB Tryd.prog = true := by kernel_rfl
theorem fitOf {n : Int} (h : (Lit.int .i64 n).wf = true) : fit n := by
  have := bounds_i64 h
  exact ⟨by omega, by omega⟩

/-- the cells of a value that came in -/
theorem open_va {H : Type} {enc : TypeId × Value → H} {W : World} {n : Nat} {cs : List Value} {x : DataW H × List MemPlace} (h : DataW.trod enc Tryd.prog W 0 (fun _ => true) true n 23 cs = some x) :
    ∃ v : Va, cs = [.int .i64 v.ty, .int .i64 v.n, .string v.s] ∧ fit v.n ∧ v.s.size ≤ 9223372036854775807 := by
  obtain ⟨y0, y1, y2, m, _, hl, t0, t1, t2⟩ := trod_struct3 Tryd.underlying23 h
  rw [cellsV] at hl
  match cs, hl with
  | [c0, c1, c2], _ =>
    have k0 : Tryd.prog.cellsOf 3 = 1 := by kernel_rfl
    have k1 : Tryd.prog.cellsOf 2 = 1 := by kernel_rfl
    have k2 : Tryd.prog.cellsOf 9 = 1 := by kernel_rfl
    have u0 : DataW.trod enc Tryd.prog W 0 (fun _ => true) true m 3 [c0] = some y0 := by simpa [k0] using t0
    have u1 : DataW.trod enc Tryd.prog W 0 (fun _ => true) true m 2 [c1] = some y1 := by simpa [k1] using t1
    have u2 : DataW.trod enc Tryd.prog W 0 (fun _ => true) true m 9 [c2] = some y2 := by simpa [k2] using t2
    obtain ⟨a, e0, _, _⟩ := DataW.trod_int Tryd.underlying3 u0
    obtain ⟨b, e1, _, wb⟩ := DataW.trod_int Tryd.underlying2 u1
    obtain ⟨s, e2, _, ws⟩ := DataW.trod_string Tryd.underlying9 u2
    simp only [List.cons.injEq, and_true] at e0 e1 e2
    subst e0 e1 e2
    exact ⟨⟨a, b, s⟩, rfl, fitOf wb, by unfold maxLen at ws; exact ws⟩

/-- a row that came in -/
theorem open_rw {H : Type} {enc : TypeId × Value → H} {W : World} {n : Nat} {cs : List Value} {x : DataW H × List MemPlace} (h : DataW.trod enc Tryd.prog W 0 (fun _ => true) true n 46 cs = some x) :
    ∃ r : Rw, cs = [.slice r.p r.la.length r.c] ∧ rwOk W r ∧ r.la.length ≤ 9223372036854775807 := by
  rcases open_slice Tryd.underlying46 h with ⟨rfl, _⟩ | ⟨a, len, cap, m, n, D, Pl, rfl, _, hl, hm, hmm, _, hx⟩
  · exact ⟨⟨none, 0, []⟩, rfl, ⟨Or.inl rfl, by simp, by simp⟩, Nat.zero_le _⟩
  · simp only [if_true] at hmm
    subst hmm
    have each : ∀ i, i < len → ∃ v : Va, (W.cell? (a.add (i * 3)) = some (.int .i64 v.ty) ∧ W.cell? ((a.add (i * 3)).add 1) = some (.int .i64 v.n) ∧ W.cell? ((a.add (i * 3)).add 2) = some (.string v.s)) ∧ fit v.n ∧ v.s.size ≤ 9223372036854775807 := by
      intro i hi
      obtain ⟨cs', h1, h2⟩ := hx i (by omega)
      rw [cellsV] at h1
      obtain ⟨_, _, hc⟩ := World.cells?_some h1
      obtain ⟨v, rfl, hf, hs⟩ := open_va h2
      have c0 := hc 0 (by omega)
      have c1 := hc 1 (by omega)
      have c2 := hc 2 (by omega)
      exact ⟨v, ⟨by simpa [Addr.add] using c0, by simpa using c1, by simpa using c2⟩, hf, hs⟩
    obtain ⟨V, hV⟩ := @choose_lt Va ⟨⟨0, 0, ⟨#[]⟩⟩⟩ _ _ each
    refine ⟨⟨some a, m, (List.range len).map V⟩, by simp, ⟨?_, ?_, ?_⟩, by unfold maxLen at hm; simp; omega⟩
    · by_cases h0 : len = 0
      · subst h0; exact Or.inl rfl
      · have g0 := (hV 0 (by omega)).1.1
        rw [Nat.zero_mul] at g0
        have hsp : a.spot = none := by simpa [Addr.add] using World.cell?_spot g0
        obtain ⟨b, off, spot⟩ := a
        simp only at hsp
        subst hsp
        have ad : ∀ j : Nat, (⟨b, off, none⟩ : Addr).add j = ⟨b, off + j, none⟩ := fun j => by simp only [Addr.add]; split <;> simp_all
        have ad2 : ∀ o j : Nat, (⟨b, o, none⟩ : Addr).add j = ⟨b, o + j, none⟩ := fun o j => by simp only [Addr.add]; split <;> simp_all
        refine Or.inr ⟨b, off, rfl, ?_, fun i v hv => ?_⟩
        · rcases Nat.lt_or_ge b W.heap.size with g | g
          · exact g
          · rw [ad] at g0; simp [World.cell?, Array.getElem?_eq_none g] at g0
        · have hi : i < len := by have := (List.getElem?_eq_some_iff.1 hv).1; simpa using this
          have ev : V i = v := by simpa [hi] using hv
          obtain ⟨c0, c1, c2⟩ := (hV i hi).1
          rw [ad2] at c0
          rw [ad2, ad2] at c1 c2
          subst ev
          exact ⟨c0, c1, c2⟩
    · intro v hv
      simp only [List.mem_map, List.mem_range] at hv
      obtain ⟨i, hi, rfl⟩ := hv
      exact (hV i hi).2.1
    · intro v hv
      simp only [List.mem_map, List.mem_range] at hv
      obtain ⟨i, hi, rfl⟩ := hv
      exact (hV i hi).2.2

theorem arg_va {H : Type} {enc : TypeId × Value → H} {W : World} {base : Nat} {v : Value} {d : DataW H} {p : List MemPlace} (hv : Value.okWide Tryd.prog W .any base 23 v) (h : DataW.Trod enc Tryd.prog W 0 (fun _ => true) true 23 v d p) :
    ∃ a : Va, v = .agg #[.int .i64 a.ty, .int .i64 a.n, .string a.s] ∧ fit a.n ∧ a.s.size ≤ 9223372036854775807 := by
  obtain ⟨cs, rfl, _⟩ := okWide_struct Tryd.underlying23 hv
  obtain ⟨n, hn⟩ := h
  obtain ⟨a, e, hf, hs⟩ := open_va hn
  have e2 : cs.toList = [.int .i64 a.ty, .int .i64 a.n, .string a.s] := by simpa [Value.cells] using e
  exact ⟨a, by rw [show cs = cs.toList.toArray by simp, e2], hf, hs⟩
theorem arg_rw {H : Type} {enc : TypeId × Value → H} {W : World} {base : Nat} {v : Value} {d : DataW H} {p : List MemPlace} (hv : Value.okWide Tryd.prog W .any base 46 v) (h : DataW.Trod enc Tryd.prog W 0 (fun _ => true) true 46 v d p) :
    ∃ r : Rw, v = .slice r.p r.la.length r.c ∧ rwOk W r ∧ r.la.length ≤ 9223372036854775807 := by
  obtain ⟨a, len, cap, rfl⟩ := okWide_slice Tryd.underlying46 hv
  obtain ⟨n, hn⟩ := h
  obtain ⟨r, e, hr⟩ := open_rw hn
  exact ⟨r, by simpa [Value.cells] using e, hr⟩
theorem cellsU8 : Tryd.prog.cellsOf 5 = 1 := by kernel_rfl
/-- bytes that came in -/
theorem arg_bytes {H : Type} {enc : TypeId × Value → H} {W : World} {base : Nat} {v : Value} {d : DataW H} {p : List MemPlace} (hv : Value.okWide Tryd.prog W .any base 24 v) (h : DataW.Trod enc Tryd.prog W 0 (fun _ => true) true 24 v d p) :
    ∃ (P : Option Addr) (C : Nat) (l : List UInt8), v = .slice P l.length C ∧ (l = [] ∨ ∃ g off, P = some ⟨g, off, none⟩ ∧ g < W.heap.size ∧ ∀ i x, l[i]? = some x → W.cell? ⟨g, off + i, none⟩ = some (.int .u8 (x.toNat : Int))) ∧ (P = none → C = 0) ∧ l.length ≤ C ∧ C ≤ 9223372036854775807 ∧ (l = [] ∨ ∃ elems spare, d = .slice elems spare ∧ elems.length = l.length) := by
  obtain ⟨a, len, cap, rfl⟩ := okWide_slice Tryd.underlying24 hv
  obtain ⟨n, hn⟩ := h
  rcases open_slice1 Tryd.underlying24 cellsU8 hn with ⟨hcs, _⟩ | ⟨a', len', cap', m, n', V, D, Pl, hcs, _, hl, hm, hmm, hx, hc⟩
  · have e : (.slice a len cap : Value) = .slice none 0 0 := by simpa [Value.cells] using hcs
    simp only [Value.slice.injEq] at e
    obtain ⟨rfl, rfl, rfl⟩ := e
    exact ⟨none, 0, [], rfl, Or.inl rfl, fun _ => rfl, Nat.le_refl _, Nat.zero_le _, Or.inl rfl⟩
  · have e : (.slice a len cap : Value) = .slice (some a') len' cap' := by simpa [Value.cells] using hcs
    simp only [Value.slice.injEq] at e
    obtain ⟨rfl, rfl, rfl⟩ := e
    simp only [if_true] at hmm
    subst hmm
    have each : ∀ i, i < len → ∃ x : UInt8, W.cell? (a'.add i) = some (.int .u8 (x.toNat : Int)) := by
      intro i hi
      obtain ⟨h1, h2⟩ := hc i (by omega)
      obtain ⟨z, e0, _, wz⟩ := DataW.trod_int Tryd.underlying5 h2
      simp only [List.cons.injEq, and_true] at e0
      have hb := bounds_u8 wz
      refine ⟨UInt8.ofNat z.toNat, ?_⟩
      rw [h1, e0, UInt8.toNat_ofNat']
      have : ((z.toNat % 2 ^ 8 : Nat) : Int) = z := by omega
      rw [this]
    obtain ⟨B, hB⟩ := choose_lt each
    simp only [Prod.mk.injEq] at hx
    refine ⟨some a', m, (List.range len).map B, by simp, ?_, (by intro h; cases h), by simp; exact hl, by unfold maxLen at hm; exact hm, Or.inr ⟨_, _, hx.1, by simp⟩⟩
    by_cases h0 : len = 0
    · subst h0; exact Or.inl rfl
    · have g0 := hB 0 (by omega)
      have hsp : a'.spot = none := by simpa [Addr.add] using World.cell?_spot g0
      obtain ⟨b, off, spot⟩ := a'
      simp only at hsp
      subst hsp
      have ad : ∀ j : Nat, (⟨b, off, none⟩ : Addr).add j = ⟨b, off + j, none⟩ := fun j => by simp only [Addr.add]; split <;> simp_all
      refine Or.inr ⟨b, off, rfl, ?_, fun i x hv => ?_⟩
      · rcases Nat.lt_or_ge b W.heap.size with g | g
        · exact g
        · rw [ad] at g0; simp [World.cell?, Array.getElem?_eq_none g] at g0
      · have hi : i < len := by have := (List.getElem?_eq_some_iff.1 hv).1; simpa using this
        have ev : B i = x := by simpa [hi] using hv
        have c0 := hB i hi
        rw [ad, ev] at c0
        exact c0
/-- what came in reads as before where all that lay there is as it was -/
theorem all_stay {H : Type} {enc : TypeId × Value → H} {W W' : World} (hb : Below W.heap.size W W') : ∀ {ts : List TypeId} {vs : List Value} {ds : List (DataW H)} {ps : List MemPlace}, (∀ t ∈ ts, Tryd.prog.readableRec t = true ∧ t < Tryd.prog.types.size) →
    (∀ p ∈ ps, p.block < W.heap.size) → DataW.TrodAll enc Tryd.prog W 0 (fun _ => true) true ts vs ds ps → DataW.TrodAll enc Tryd.prog W' 0 (fun b => decide (b < W.heap.size)) true ts vs ds ps
  | [], [], [], _, _, _, h => h
  | t :: ts, v :: vs, d :: ds, ps, ht, hp, ⟨p, q, h1, h2, e⟩ => by
    subst e
    refine ⟨p, q, WideElems.Trod_stays laidOut' (ht t List.mem_cons_self).1 (ht t List.mem_cons_self).2 h1 (fun x hx => hb.same (hp x (List.mem_append_left _ hx))) (fun x hx => by simpa using hp x (List.mem_append_left _ hx)), ?_, rfl⟩
    exact all_stay hb (fun t h => ht t (List.mem_cons_of_mem _ h)) (fun x hx => hp x (List.mem_append_right _ hx)) h2
  | [], _ :: _, _, _, _, _, h => h.elim
  | [], [], _ :: _, _, _, _, h => h.elim
  | _ :: _, [], _, _, _, _, h => h.elim
  | _ :: _, _ :: _, [], _, _, _, h => h.elim
end Go.Proofs.YtjdnbgnjgicbbaaDoor
