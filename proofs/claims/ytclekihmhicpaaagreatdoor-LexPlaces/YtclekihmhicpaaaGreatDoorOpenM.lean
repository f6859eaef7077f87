/-
  Bytes that came in.
-/
import Derived.Test.YtclekihmhicpaaaGreatDoorOpenL
namespace Go.Proofs.YtclekihmhicpaaaGreatDoor
open Go.ChangeShapes Go.WideShapes Go.ChangeAt Go.RowKit Go.Lib Go.Shelf Go.Joins Go.Deep
set_option maxRecDepth 100000

theorem cellsU8 : Tryz.prog.cellsOf 5 = 1 := by kernel_rfl
/-- bytes that came in -/
theorem arg_bytes {H : Type} {enc : TypeId × Value → H} {W : World} {base : Nat} {v : Value} {d : DataW H} {p : List MemPlace} (hv : Value.okWide Tryz.prog W .any base 40 v) (h : DataW.Trod enc Tryz.prog W 0 (fun _ => true) true 40 v d p) :
    ∃ (P : Option Addr) (C : Nat) (l : List UInt8), v = .slice P l.length C ∧ (l = [] ∨ ∃ g off, P = some ⟨g, off, none⟩ ∧ g < W.heap.size ∧ ∀ i x, l[i]? = some x → W.cell? ⟨g, off + i, none⟩ = some (.int .u8 (x.toNat : Int))) ∧ (P = none → C = 0) ∧ l.length ≤ C ∧ C ≤ 9223372036854775807 ∧ (l = [] ∨ ∃ elems spare, d = .slice elems spare ∧ elems.length = l.length) := by
  obtain ⟨a, len, cap, rfl⟩ := okWide_slice Tryz.underlying40 hv
  obtain ⟨n, hn⟩ := h
  rcases open_slice1 Tryz.underlying40 cellsU8 hn with ⟨hcs, _⟩ | ⟨a', len', cap', m, n', V, D, Pl, hcs, _, hl, hm, hmm, hx, hc⟩
  · have e : (.slice a len cap : Value) = .slice none 0 0 := by simpa [Value.cells] using hcs
    simp only [Value.slice.injEq] at e
    obtain ⟨rfl, rfl, rfl⟩ := e
    exact ⟨none, 0, [], rfl, Or.inl rfl, fun _ => rfl, Nat.le_refl _, Nat.zero_le _, Or.inl rfl⟩
  · have e : (.slice a len cap : Value) = .slice (some a') len' cap' := by simpa [Value.cells] using hcs
    simp only [Value.slice.injEq] at e
    obtain ⟨rfl, rfl, rfl⟩ := e
    simp only [if_true] at hmm
    subst hmm
    have each : ∀ i, i < len → ∃ x : UInt8, W.cell? (a'.add i) = some (.int .u8 (x.toNat : Int)) := by
      intro i hi
      obtain ⟨h1, h2⟩ := hc i (by omega)
      obtain ⟨z, e0, _, wz⟩ := DataW.trod_int Tryz.underlying5 h2
      simp only [List.cons.injEq, and_true] at e0
      have hb := bounds_u8 wz
      refine ⟨UInt8.ofNat z.toNat, ?_⟩
      rw [h1, e0, UInt8.toNat_ofNat']
      have : ((z.toNat % 2 ^ 8 : Nat) : Int) = z := by omega
      rw [this]
    obtain ⟨B, hB⟩ := choose_lt each
    simp only [Prod.mk.injEq] at hx
    refine ⟨some a', m, (List.range len).map B, by simp, ?_, (by intro h; cases h), by simp; exact hl, by unfold maxLen at hm; exact hm, Or.inr ⟨_, _, hx.1, by simp⟩⟩
    by_cases h0 : len = 0
    · subst h0; exact Or.inl rfl
    · have g0 := hB 0 (by omega)
      have hsp : a'.spot = none := by simpa [Addr.add] using World.cell?_spot g0
      obtain ⟨b, off, spot⟩ := a'
      simp only at hsp
      subst hsp
      have ad : ∀ j : Nat, (⟨b, off, none⟩ : Addr).add j = ⟨b, off + j, none⟩ := fun j => by simp only [Addr.add]; split <;> simp_all
      refine Or.inr ⟨b, off, rfl, ?_, fun i x hv => ?_⟩
      · rcases Nat.lt_or_ge b W.heap.size with g | g
        · exact g
        · rw [ad] at g0; simp [World.cell?, Array.getElem?_eq_none g] at g0
      · have hi : i < len := by have := (List.getElem?_eq_some_iff.1 hv).1; simpa using this
        have ev : B i = x := by simpa [hi] using hv
        have c0 := hB i hi
        rw [ad, ev] at c0
        exact c0
end Go.Proofs.YtclekihmhicpaaaGreatDoor
