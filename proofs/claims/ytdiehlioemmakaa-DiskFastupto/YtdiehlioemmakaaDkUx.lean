/-
  Slices of bytes and of numbers that came in; what reads as before where nothing that lay there has changed.
-/
import Derived.Test.YtdiehlioemmakaaDkOx
import Derived.ProofKit
import Derived.OpenShut
import Derived.WideKeyArgs
import Derived.Deep.Slices
import Derived.Deep.Strs
import Derived.ChangeOld
import Derived.Lib.SmallJoins
namespace Go.Proofs.Ytdiehlioemmakaa
open Go.ChangeShapes Go.WideShapes Go.ChangeAt Go.RowKit Go.Lib Go.Joins Go.Deep

set_option maxRecDepth 100000
theorem laidOut' : laidOutB Try.prog = true := by kernel_rfl
theorem cellsU8 : Try.prog.cellsOf 5 = 1 := by kernel_rfl
/-- bytes that came in -/
theorem arg_bytes {H : Type} {enc : TypeId × Value → H} {W : World} {base : Nat} {v : Value} {d : DataW H} {p : List MemPlace} (hv : Value.okWide Try.prog W .any base 27 v) (h : DataW.Trod enc Try.prog W 0 (fun _ => true) true 27 v d p) :
    ∃ (P : Option Addr) (C : Nat) (l : List UInt8), v = .slice P l.length C ∧ byIn W P l ∧ (P = none → C = 0) ∧ (l = [] ∨ ∃ elems spare, d = .slice elems spare ∧ elems.length = l.length) := by
  obtain ⟨a, len, cap, rfl⟩ := okWide_slice Try.underlying27 hv
  obtain ⟨n, hn⟩ := h
  rcases open_slice1 Try.underlying27 cellsU8 hn with ⟨hcs, _⟩ | ⟨a', len', cap', m, n', V, D, Pl, hcs, _, hl, hm, hmm, hx, hc⟩
  · have e : (.slice a len cap : Value) = .slice none 0 0 := by simpa [Value.cells] using hcs
    simp only [Value.slice.injEq] at e
    obtain ⟨rfl, rfl, rfl⟩ := e
    exact ⟨none, 0, [], rfl, Or.inl ⟨rfl, rfl⟩, fun _ => rfl, Or.inl rfl⟩
  · have e : (.slice a len cap : Value) = .slice (some a') len' cap' := by simpa [Value.cells] using hcs
    simp only [Value.slice.injEq] at e
    obtain ⟨rfl, rfl, rfl⟩ := e
    simp only [if_true] at hmm
    subst hmm
    have each : ∀ i, i < len → ∃ x : UInt8, W.cell? (a'.add i) = some (.int .u8 (x.toNat : Int)) := by
      intro i hi
      obtain ⟨h1, h2⟩ := hc i (by omega)
      obtain ⟨z, e0, _, wz⟩ := DataW.trod_int Try.underlying5 h2
      simp only [List.cons.injEq, and_true] at e0
      have hb := bounds_u8 wz
      refine ⟨UInt8.ofNat z.toNat, ?_⟩
      rw [h1, e0, UInt8.toNat_ofNat']
      have : ((z.toNat % 2 ^ 8 : Nat) : Int) = z := by omega
      rw [this]
    obtain ⟨B, hB⟩ := choose_lt each
    simp only [Prod.mk.injEq] at hx
    refine ⟨some a', m, (List.range len).map B, by simp, Or.inr ⟨a', rfl, fun i x hv => ?_⟩, (by intro h; cases h), Or.inr ⟨_, _, hx.1, by simp⟩⟩
    have hi : i < len := by have := (List.getElem?_eq_some_iff.1 hv).1; simpa using this
    have ev : B i = x := by simpa [hi] using hv
    have c0 := hB i hi
    rw [ev] at c0
    exact c0
theorem cellsI : Try.prog.cellsOf 3 = 1 := by kernel_rfl
/-- numbers that came in -/
theorem arg_ints {H : Type} {enc : TypeId × Value → H} {W : World} {base : Nat} {v : Value} {d : DataW H} {p : List MemPlace} (hv : Value.okWide Try.prog W .any base 28 v) (h : DataW.Trod enc Try.prog W 0 (fun _ => true) true 28 v d p) :
    ∃ (P : Option Addr) (C : Nat) (l : List Int), v = .slice P l.length C ∧ intIn W P l ∧ (∀ x ∈ l, -9223372036854775808 ≤ x ∧ x ≤ 9223372036854775807) ∧ l.length ≤ 9223372036854775807 := by
  obtain ⟨a, len, cap, rfl⟩ := okWide_slice Try.underlying28 hv
  obtain ⟨n, hn⟩ := h
  rcases open_slice1 Try.underlying28 cellsI hn with ⟨hcs, _⟩ | ⟨a', len', cap', m, n', V, D, Pl, hcs, _, hl, hm, hmm, hx, hc⟩
  · have e : (.slice a len cap : Value) = .slice none 0 0 := by simpa [Value.cells] using hcs
    simp only [Value.slice.injEq] at e
    obtain ⟨rfl, rfl, rfl⟩ := e
    exact ⟨none, 0, [], rfl, Or.inl rfl, by simp, by simp⟩
  · have e : (.slice a len cap : Value) = .slice (some a') len' cap' := by simpa [Value.cells] using hcs
    simp only [Value.slice.injEq] at e
    obtain ⟨rfl, rfl, rfl⟩ := e
    simp only [if_true] at hmm
    subst hmm
    have each : ∀ i, i < len → ∃ x : Int, W.cell? (a'.add i) = some (.int .i64 x) ∧ -9223372036854775808 ≤ x ∧ x ≤ 9223372036854775807 := by
      intro i hi
      obtain ⟨h1, h2⟩ := hc i (by omega)
      obtain ⟨z, e0, _, wz⟩ := DataW.trod_int Try.underlying3 h2
      simp only [List.cons.injEq, and_true] at e0
      have hb := bounds_i64 wz
      exact ⟨z, by rw [h1, e0], by omega, by omega⟩
    obtain ⟨B, hB⟩ := choose_lt each
    refine ⟨some a', m, (List.range len).map B, by simp, ?_, fun x hx => ?_, by simp; unfold maxLen at hm; omega⟩
    · by_cases h0 : len = 0
      · subst h0; exact Or.inl rfl
      · have g0 := (hB 0 (by omega)).1
        have hsp : a'.spot = none := by simpa [Addr.add] using World.cell?_spot g0
        obtain ⟨b, off, spot⟩ := a'
        simp only at hsp
        subst hsp
        refine Or.inr ⟨b, off, rfl, fun i x hv => ?_⟩
        have hi : i < len := by have := (List.getElem?_eq_some_iff.1 hv).1; simpa using this
        have ev : B i = x := by simpa [hi] using hv
        have c0 := (hB i hi).1
        rw [add_plain, ev] at c0
        exact c0
    · rw [List.mem_map] at hx
      obtain ⟨i, hi, rfl⟩ := hx
      exact (hB i (by simpa using hi)).2
/-- what came in reads as before where all that lay there is as it was -/
theorem all_stay {H : Type} {enc : TypeId × Value → H} {W W' : World} (hb : Below W.heap.size W W') : ∀ {ts : List TypeId} {vs : List Value} {ds : List (DataW H)} {ps : List MemPlace}, (∀ t ∈ ts, Try.prog.readableRec t = true ∧ t < Try.prog.types.size) →
    (∀ p ∈ ps, p.block < W.heap.size) → DataW.TrodAll enc Try.prog W 0 (fun _ => true) true ts vs ds ps → DataW.TrodAll enc Try.prog W' 0 (fun b => decide (b < W.heap.size)) true ts vs ds ps
  | [], [], [], _, _, _, h => h
  | t :: ts, v :: vs, d :: ds, ps, ht, hp, ⟨p, q, h1, h2, e⟩ => by
    subst e
    refine ⟨p, q, WideElems.Trod_stays laidOut' (ht t List.mem_cons_self).1 (ht t List.mem_cons_self).2 h1 (fun x hx => hb.same (hp x (List.mem_append_left _ hx))) (fun x hx => by simpa using hp x (List.mem_append_left _ hx)), ?_, rfl⟩
    exact all_stay hb (fun t h => ht t (List.mem_cons_of_mem _ h)) (fun x hx => hp x (List.mem_append_right _ hx)) h2
  | [], _ :: _, _, _, _, _, h => h.elim
  | [], [], _ :: _, _, _, _, h => h.elim
  | _ :: _, [], _, _, _, _, h => h.elim
  | _ :: _, _ :: _, [], _, _, _, h => h.elim
end Go.Proofs.Ytdiehlioemmakaa
