/-
  A list of rows that came in, and how great it is at most.
-/
import Derived.Test.YtedacccedbchaaaDoorOpenA
import Derived.Test.YtedacccedbchaaaDoorRows
import Derived.ChangeSame
namespace Go.Proofs.YtedacccedbchaaaDoor
open Go.ChangeShapes Go.WideShapes Go.ChangeAt Go.RowKit Go.Lib Go.Shelf Go.Joins Go.Deep
set_option maxRecDepth 100000

theorem bk_one {H : Type} (d : DataW H) : 1 ≤ Rows.uptoBulk d := by
  cases d with
  | lit x => cases x <;> simp [Rows.uptoBulk]
  | _ => simp [Rows.uptoBulk]
theorem bk_all {H : Type} : ∀ l : List (DataW H), l.length ≤ Rows.uptoBulkAll l
  | [] => Nat.zero_le _
  | d :: l => by
    have h1 := bk_one d
    have h2 := bk_all l
    simp only [Rows.uptoBulkAll, List.length_cons]; omega
theorem bk_mem {H : Type} : ∀ (l : List (DataW H)) (d : DataW H), d ∈ l → Rows.uptoBulk d ≤ Rows.uptoBulkAll l
  | [], _, h => by simp at h
  | x :: l, d, h => by
    simp only [Rows.uptoBulkAll]
    rcases List.mem_cons.1 h with rfl | h
    · omega
    · have := bk_mem l d h; omega
/-- a row that came in, and how great it is at most -/
theorem open_rwb {H : Type} {enc : TypeId × Value → H} {W : World} {n : Nat} {cs : List Value} {x : DataW H × List MemPlace} (h : DataW.trod enc Tryd.prog W 0 (fun _ => true) true n 30 cs = some x) :
    ∃ r : Rw, cs = [.slice r.p r.la.length r.c] ∧ rwOk W r ∧ (r.p = none → r.c = 0) ∧ r.la.length ≤ Rows.uptoBulk x.1 := by
  obtain ⟨r, e, hr, _⟩ := open_rw h
  rcases open_slice Tryd.underlying30 h with ⟨e2, _⟩ | ⟨a, len, cap, m, n', D, Pl, e2, _, _, _, _, hx, _⟩
  · rw [e] at e2
    simp only [List.cons.injEq, Value.slice.injEq, and_true] at e2
    exact ⟨r, e, hr, fun _ => e2.2.2, by rw [e2.2.1]; exact Nat.zero_le _⟩
  · rw [e] at e2
    simp only [List.cons.injEq, Value.slice.injEq, and_true] at e2
    refine ⟨r, e, hr, fun h => (by rw [e2.1] at h; cases h), ?_⟩
    rw [hx, e2.2.1]
    have := bk_all ((List.range len).map D)
    simp only [List.length_map, List.length_range] at this
    simp only [Rows.uptoBulk]; omega
theorem arg_rowb {H : Type} {enc : TypeId × Value → H} {W : World} {base : Nat} {v : Value} {d : DataW H} {p : List MemPlace} (hv : Value.okWide Tryd.prog W .any base 30 v) (h : DataW.Trod enc Tryd.prog W 0 (fun _ => true) true 30 v d p) :
    ∃ r : Rw, v = .slice r.p r.la.length r.c ∧ rwOk W r ∧ (r.p = none → r.c = 0) ∧ r.la.length ≤ Rows.uptoBulk d := by
  obtain ⟨a, len, cap, rfl⟩ := okWide_slice Tryd.underlying30 hv
  obtain ⟨n, hn⟩ := h
  obtain ⟨r, e, hr⟩ := open_rwb hn
  exact ⟨r, by simpa [Value.cells] using e, hr⟩
/-- a list of rows that came in -/
theorem arg_rwsb {H : Type} {enc : TypeId × Value → H} {W : World} {base : Nat} {v : Value} {d : DataW H} {p : List MemPlace} (hv : Value.okWide Tryd.prog W .any base 22 v) (h : DataW.Trod enc Tryd.prog W 0 (fun _ => true) true 22 v d p) :
    ∃ (P : Option Addr) (C : Nat) (l : List Rw), v = .slice P l.length C ∧ rowsIn W P l ∧ (∀ r ∈ l, rwOk W r) ∧ (∀ r ∈ l, r.p = none → r.c = 0) ∧ l.length ≤ Rows.uptoBulk d ∧ ∀ r ∈ l, r.la.length ≤ Rows.uptoBulk d := by
  obtain ⟨a, len, cap, rfl⟩ := okWide_slice Tryd.underlying22 hv
  obtain ⟨n, hn⟩ := h
  rcases open_slice1 Tryd.underlying22 cellsRow hn with ⟨hcs, _⟩ | ⟨a', len', cap', m, n', V, D, Pl, hcs, _, hl, hm, hmm, hx, hc⟩
  · have e : (.slice a len cap : Value) = .slice none 0 0 := by simpa [Value.cells] using hcs
    simp only [Value.slice.injEq] at e
    obtain ⟨rfl, rfl, rfl⟩ := e
    exact ⟨none, 0, [], rfl, Or.inl rfl, by simp, by simp, Nat.zero_le _, by simp⟩
  · have e : (.slice a len cap : Value) = .slice (some a') len' cap' := by simpa [Value.cells] using hcs
    simp only [Value.slice.injEq] at e
    obtain ⟨rfl, rfl, rfl⟩ := e
    simp only [if_true] at hmm
    subst hmm
    have hd : d = .slice ((List.range len).map D) ((List.range (m - len)).map fun j => D (len + j)) := (Prod.mk.inj hx).1
    have hbk : ∀ i, i < len → Rows.uptoBulk (D i) ≤ Rows.uptoBulk d := fun i hi => by
      have := bk_mem ((List.range len).map D) (D i) (by simp only [List.mem_map, List.mem_range]; exact ⟨i, hi, rfl⟩)
      rw [hd]; simp only [Rows.uptoBulk]; omega
    have each : ∀ i, i < len → ∃ r : Rw, W.cell? (a'.add i) = some (.slice r.p r.la.length r.c) ∧ rwOk W r ∧ (r.p = none → r.c = 0) ∧ r.la.length ≤ Rows.uptoBulk (D i) := by
      intro i hi
      obtain ⟨h1, h2⟩ := hc i (by omega)
      obtain ⟨r, e, hr, hnn, hb⟩ := open_rwb h2
      simp only [List.cons.injEq, and_true] at e
      exact ⟨r, by rw [h1, e], hr, hnn, hb⟩
    obtain ⟨R, hR⟩ := @choose_lt Rw ⟨⟨none, 0, []⟩⟩ _ _ each
    refine ⟨some a', m, (List.range len).map R, by simp, ?_, ?_, ?_, ?_, ?_⟩
    · by_cases h0 : len = 0
      · subst h0; exact Or.inl rfl
      · have g0 := (hR 0 (by omega)).1
        have hsp : a'.spot = none := by simpa [Addr.add] using World.cell?_spot g0
        obtain ⟨b, off, spot⟩ := a'
        simp only at hsp
        subst hsp
        have ad : ∀ j : Nat, (⟨b, off, none⟩ : Addr).add j = ⟨b, off + j, none⟩ := fun j => by simp only [Addr.add]; split <;> simp_all
        refine Or.inr ⟨b, off, rfl, ?_, fun i r hv => ?_⟩
        · rcases Nat.lt_or_ge b W.heap.size with g | g
          · exact g
          · rw [ad] at g0; simp [World.cell?, Array.getElem?_eq_none g] at g0
        · have hi : i < len := by have := (List.getElem?_eq_some_iff.1 hv).1; simpa using this
          have ev : R i = r := by simpa [hi] using hv
          have c0 := (hR i hi).1
          rw [ad, ev] at c0
          exact c0
    · intro v hv
      simp only [List.mem_map, List.mem_range] at hv
      obtain ⟨i, hi, rfl⟩ := hv
      exact (hR i hi).2.1
    · intro v hv
      simp only [List.mem_map, List.mem_range] at hv
      obtain ⟨i, hi, rfl⟩ := hv
      exact (hR i hi).2.2.1
    · rw [hd]
      have := bk_all ((List.range len).map D)
      simp only [List.length_map, List.length_range] at this ⊢
      simp only [Rows.uptoBulk]; omega
    · intro v hv
      simp only [List.mem_map, List.mem_range] at hv
      obtain ⟨i, hi, rfl⟩ := hv
      exact Nat.le_trans (hR i hi).2.2.2 (hbk i hi)
end Go.Proofs.YtedacccedbchaaaDoor
