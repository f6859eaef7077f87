/-
  Acts that came in: each whether it drops, and its row; how great they are at most.
-/
import Derived.Test.YtjdnbgnjgicbbaaDoorOpenA
import Derived.Test.YtjdnbgnjgicbbaaDoorRows
import Derived.Test.YtjdnbgnjgicbbaaDoorDgM
import Derived.ChangeSame
namespace Go.Proofs.YtjdnbgnjgicbbaaDoor
open Go.ChangeShapes Go.WideShapes Go.ChangeAt Go.RowKit Go.Lib Go.Shelf Go.Joins Go.Deep

theorem bk_one {H : Type} (d : DataW H) : 1 ≤ Rows.uptoBulk d := by
  cases d with
  | lit x => cases x <;> simp [Rows.uptoBulk]
  | _ => simp [Rows.uptoBulk]
theorem bk_all {H : Type} : ∀ l : List (DataW H), l.length ≤ Rows.uptoBulkAll l
  | [] => Nat.zero_le _
  | d :: l => by
    have h1 := bk_one d
    have h2 := bk_all l
    simp only [Rows.uptoBulkAll, List.length_cons]; omega
theorem bk_mem {H : Type} : ∀ (l : List (DataW H)) (d : DataW H), d ∈ l → Rows.uptoBulk d ≤ Rows.uptoBulkAll l
  | [], _, h => by simp at h
  | x :: l, d, h => by
    simp only [Rows.uptoBulkAll]
    rcases List.mem_cons.1 h with rfl | h
    · omega
    · have := bk_mem l d h; omega
/-- a row that came in, and how great it is at most -/
theorem open_rwb {H : Type} {enc : TypeId × Value → H} {W : World} {n : Nat} {cs : List Value} {x : DataW H × List MemPlace} (h : DataW.trod enc Tryd.prog W 0 (fun _ => true) true n 46 cs = some x) :
    ∃ r : Rw, cs = [.slice r.p r.la.length r.c] ∧ rwOk W r ∧ (r.p = none → r.c = 0) ∧ r.la.length ≤ Rows.uptoBulk x.1 := by
  obtain ⟨r, e, hr, _⟩ := open_rw h
  rcases open_slice Tryd.underlying46 h with ⟨e2, _⟩ | ⟨a, len, cap, m, n', D, Pl, e2, _, _, _, _, hx, _⟩
  · rw [e] at e2
    simp only [List.cons.injEq, Value.slice.injEq, and_true] at e2
    exact ⟨r, e, hr, fun _ => e2.2.2, by rw [e2.2.1]; exact Nat.zero_le _⟩
  · rw [e] at e2
    simp only [List.cons.injEq, Value.slice.injEq, and_true] at e2
    refine ⟨r, e, hr, fun h => (by rw [e2.1] at h; cases h), ?_⟩
    rw [hx, e2.2.1]
    have := bk_all ((List.range len).map D)
    simp only [List.length_map, List.length_range] at this
    simp only [Rows.uptoBulk]; omega
theorem cellsAct : Tryd.prog.cellsOf 49 = 2 := by kernel_rfl
/-- an act that came in -/
theorem open_ac {H : Type} {enc : TypeId × Value → H} {W : World} {n : Nat} {cs : List Value} {x : DataW H × List MemPlace} (h : DataW.trod enc Tryd.prog W 0 (fun _ => true) true n 49 cs = some x) :
    ∃ a : Ac, cs = [.bool a.b, .slice a.r.p a.r.la.length a.r.c] ∧ rwOk W a.r ∧ (a.r.p = none → a.r.c = 0) ∧ a.r.la.length ≤ Rows.uptoBulk x.1 := by
  obtain ⟨y0, y1, m, hx, hl, t0, t1⟩ := trod_struct2 Tryd.underlying49 h
  rw [cellsAct] at hl
  match cs, hl with
  | [c0, c1], _ =>
    have k0 : Tryd.prog.cellsOf 4 = 1 := by kernel_rfl
    have u0 : DataW.trod enc Tryd.prog W 0 (fun _ => true) true m 4 [c0] = some y0 := by simpa [k0] using t0
    have u1 : DataW.trod enc Tryd.prog W 0 (fun _ => true) true m 46 [c1] = some y1 := by simpa [cellsRow] using t1
    obtain ⟨b, e0, _⟩ := DataW.trod_bool Tryd.underlying4 u0
    obtain ⟨r, e1, hr, hn, hb⟩ := open_rwb u1
    simp only [List.cons.injEq, and_true] at e0 e1
    subst e0 e1
    refine ⟨⟨b, r⟩, rfl, hr, hn, ?_⟩
    rw [hx]
    simp only [Rows.uptoBulk, Rows.uptoBulkAll]; omega
/-- acts that came in -/
theorem arg_acts {H : Type} {enc : TypeId × Value → H} {W : World} {base : Nat} {v : Value} {d : DataW H} {p : List MemPlace} (hv : Value.okWide Tryd.prog W .any base 36 v) (h : DataW.Trod enc Tryd.prog W 0 (fun _ => true) true 36 v d p) :
    ∃ (P : Option Addr) (C : Nat) (l : List Ac), v = .slice P l.length C ∧ actsIn W P l ∧ (∀ a ∈ l, rwOk W a.r ∧ (a.r.p = none → a.r.c = 0)) ∧ l.length ≤ Rows.uptoBulk d ∧ ∀ a ∈ l, a.r.la.length ≤ Rows.uptoBulk d := by
  obtain ⟨a, len, cap, rfl⟩ := okWide_slice Tryd.underlying36 hv
  obtain ⟨n, hn⟩ := h
  rcases open_slice Tryd.underlying36 hn with ⟨hcs, _⟩ | ⟨a', len', cap', m, n', D, Pl, hcs, _, hl, hm, hmm, hx, hc⟩
  · have e : (.slice a len cap : Value) = .slice none 0 0 := by simpa [Value.cells] using hcs
    simp only [Value.slice.injEq] at e
    obtain ⟨rfl, rfl, rfl⟩ := e
    exact ⟨none, 0, [], rfl, Or.inl rfl, by simp, Nat.zero_le _, by simp⟩
  · have e : (.slice a len cap : Value) = .slice (some a') len' cap' := by simpa [Value.cells] using hcs
    simp only [Value.slice.injEq] at e
    obtain ⟨rfl, rfl, rfl⟩ := e
    simp only [if_true] at hmm
    subst hmm
    have hd : d = .slice ((List.range len).map D) ((List.range (m - len)).map fun j => D (len + j)) := (Prod.mk.inj hx).1
    have hbk : ∀ i, i < len → Rows.uptoBulk (D i) ≤ Rows.uptoBulk d := fun i hi => by
      have := bk_mem ((List.range len).map D) (D i) (by simp only [List.mem_map, List.mem_range]; exact ⟨i, hi, rfl⟩)
      rw [hd]; simp only [Rows.uptoBulk]; omega
    have each : ∀ i, i < len → ∃ x : Ac, (W.cell? (a'.add (i * 2)) = some (.bool x.b) ∧ W.cell? ((a'.add (i * 2)).add 1) = some (.slice x.r.p x.r.la.length x.r.c)) ∧ rwOk W x.r ∧ (x.r.p = none → x.r.c = 0) ∧ x.r.la.length ≤ Rows.uptoBulk (D i) := by
      intro i hi
      obtain ⟨cs', h1, h2⟩ := hc i (by omega)
      rw [cellsAct] at h1
      obtain ⟨_, _, hcc⟩ := World.cells?_some h1
      obtain ⟨x, rfl, hr, hnn, hb⟩ := open_ac h2
      have c0 := hcc 0 (by omega)
      have c1 := hcc 1 (by omega)
      exact ⟨x, ⟨by simpa [Addr.add] using c0, by simpa using c1⟩, hr, hnn, hb⟩
    obtain ⟨V, hV⟩ := @choose_lt Ac ⟨⟨false, ⟨none, 0, []⟩⟩⟩ _ _ each
    refine ⟨some a', m, (List.range len).map V, by simp, ?_, ?_, ?_, ?_⟩
    · by_cases h0 : len = 0
      · subst h0; exact Or.inl rfl
      · have g0 := (hV 0 (by omega)).1.1
        have hsp : a'.spot = none := by simpa [Addr.add] using World.cell?_spot g0
        obtain ⟨b, off, spot⟩ := a'
        simp only at hsp
        subst hsp
        have ad : ∀ j : Nat, (⟨b, off, none⟩ : Addr).add j = ⟨b, off + j, none⟩ := fun j => by simp only [Addr.add]; split <;> simp_all
        have ad2 : ∀ j : Nat, ((⟨b, off, none⟩ : Addr).add j).add 1 = ⟨b, off + j + 1, none⟩ := fun j => by rw [ad]; simp only [Addr.add]; split <;> simp_all
        refine Or.inr ⟨b, off, rfl, ?_, fun i x hx2 => ?_⟩
        · rcases Nat.lt_or_ge b W.heap.size with g | g
          · exact g
          · rw [ad] at g0; simp [World.cell?, Array.getElem?_eq_none g] at g0
        · have hi : i < len := by have := (List.getElem?_eq_some_iff.1 hx2).1; simpa using this
          have ev : V i = x := by simpa [hi] using hx2
          have c := (hV i hi).1
          rw [ad2, ad, ev] at c
          exact c
    · intro x hx2
      simp only [List.mem_map, List.mem_range] at hx2
      obtain ⟨i, hi, rfl⟩ := hx2
      exact ⟨(hV i hi).2.1, (hV i hi).2.2.1⟩
    · rw [hd]
      have := bk_all ((List.range len).map D)
      simp only [List.length_map, List.length_range] at this ⊢
      simp only [Rows.uptoBulk]; omega
    · intro x hx2
      simp only [List.mem_map, List.mem_range] at hx2
      obtain ⟨i, hi, rfl⟩ := hx2
      exact Nat.le_trans (hV i hi).2.2.2 (hbk i hi)
end Go.Proofs.YtjdnbgnjgicbbaaDoor
