/-
  Forms and rows that came in; what reads as before where nothing that lay there has changed.
-/
import Derived.Test.YtecebjfcokmmkaaGreatDoorRows
import Derived.Test.YtecebjfcokmmkaaGreatDoorTgA
import Derived.ProofKit
import Derived.OpenShut
import Derived.WideKeyArgs
import Derived.Deep.Slices
import Derived.Deep.Strs
import Derived.ChangeOld
import Derived.Lib.SmallJoins
namespace Go.Proofs.YtecebjfcokmmkaaGreatDoor
open Go.ChangeShapes Go.WideShapes Go.ChangeAt Go.RowKit Go.Lib Go.Shelf Go.Joins Go.Deep
set_option maxRecDepth 100000

theorem laidOut' : laidOutB Tryz.prog = true := by kernel_rfl
theorem all_stay {H : Type} {enc : TypeId × Value → H} {W W' : World} (hb : Below W.heap.size W W') : ∀ {ts : List TypeId} {vs : List Value} {ds : List (DataW H)} {ps : List MemPlace}, (∀ t ∈ ts, Tryz.prog.readableRec t = true ∧ t < Tryz.prog.types.size) →
    (∀ p ∈ ps, p.block < W.heap.size) → DataW.TrodAll enc Tryz.prog W 0 (fun _ => true) true ts vs ds ps → DataW.TrodAll enc Tryz.prog W' 0 (fun b => decide (b < W.heap.size)) true ts vs ds ps
  | [], [], [], _, _, _, h => h
  | t :: ts, v :: vs, d :: ds, ps, ht, hp, ⟨p, q, h1, h2, e⟩ => by
    subst e
    refine ⟨p, q, WideElems.Trod_stays laidOut' (ht t List.mem_cons_self).1 (ht t List.mem_cons_self).2 h1 (fun x hx => hb.same (hp x (List.mem_append_left _ hx))) (fun x hx => by simpa using hp x (List.mem_append_left _ hx)), ?_, rfl⟩
    exact all_stay hb (fun t h => ht t (List.mem_cons_of_mem _ h)) (fun x hx => hp x (List.mem_append_right _ hx)) h2
  | [], _ :: _, _, _, _, _, h => h.elim
  | [], [], _ :: _, _, _, _, h => h.elim
  | _ :: _, [], _, _, _, _, h => h.elim
  | _ :: _, _ :: _, [], _, _, _, h => h.elim
theorem bulk_one {H : Type} (d : DataW H) : 1 ≤ Rows.uptoBulk d := by
  cases d with
  | lit x => cases x <;> simp [Rows.uptoBulk]
  | _ => simp [Rows.uptoBulk]
theorem bulk_all {H : Type} : ∀ l : List (DataW H), l.length ≤ Rows.uptoBulkAll l
  | [] => Nat.zero_le _
  | d :: l => by
    have h1 := bulk_one d
    have h2 := bulk_all l
    simp only [Rows.uptoBulkAll, List.length_cons]; omega
theorem bulk_part {H : Type} {d : DataW H} : ∀ {l : List (DataW H)}, d ∈ l → Rows.uptoBulk d ≤ Rows.uptoBulkAll l
  | x :: r, h => by
    simp only [Rows.uptoBulkAll]
    rcases List.mem_cons.1 h with e | e
    · subst e; omega
    · have := bulk_part (l := r) e; omega
/-- a list that came in, whose elements are known by their cells -/
theorem open_list {H : Type} {enc : TypeId × Value → H} {W : World} {α : Type} (a0 : α) {t e sz : Nat} (ht : Tryz.prog.underlying t = some (.slice e)) (hc : Tryz.prog.cellsOf e = sz) (h0 : 0 < sz) (en : α → List Value) (G : DataW H → α → Prop)
    (hel : ∀ n cs y, DataW.trod enc Tryz.prog W 0 (fun _ => true) true n e cs = some y → ∃ a, cs = en a ∧ G y.1 a) (hlen : ∀ a, (en a).length = sz) {n : Nat} {cs : List Value} {x : DataW H × List MemPlace} (h : DataW.trod enc Tryz.prog W 0 (fun _ => true) true n t cs = some x) :
    ∃ (P : Option Addr) (C : Nat) (l : List α), cs = [.slice P l.length C] ∧ (P = none → C = 0) ∧ l.length ≤ C ∧ l.length ≤ Rows.uptoBulk x.1 ∧ (∀ a ∈ l, ∃ d, Rows.uptoBulk d ≤ Rows.uptoBulk x.1 ∧ G d a) ∧
      (l = [] ∨ ∃ g o, P = some ⟨g, o, none⟩ ∧ g < W.heap.size ∧ ∀ i a, l[i]? = some a → ∀ j u, (en a)[j]? = some u → W.cell? ⟨g, o + i * sz + j, none⟩ = some u) := by
  rcases open_slice ht h with ⟨rfl, _⟩ | ⟨a, len, cap, m, n', D, Pl, rfl, _, hl, hm, hmm, hx, hel2⟩
  · exact ⟨none, 0, [], rfl, fun _ => rfl, Nat.le_refl _, Nat.zero_le _, by simp, Or.inl rfl⟩
  · simp only [if_true] at hmm
    subst hmm
    have each : ∀ i, i < len → ∃ v : α, (∀ j u, (en v)[j]? = some u → W.cell? ((a.add (i * sz)).add j) = some u) ∧ G (D i) v := by
      intro i hi
      obtain ⟨cs', h1, h2⟩ := hel2 i (by omega)
      rw [hc] at h1
      obtain ⟨_, hl', hcc⟩ := World.cells?_some h1
      obtain ⟨v, rfl, hg⟩ := hel _ _ _ h2
      refine ⟨v, fun j u hj => ?_, hg⟩
      have hjl : j < sz := by have := (List.getElem?_eq_some_iff.1 hj).1; rw [hlen] at this; exact this
      have := hcc j hjl
      rw [this]; exact hj
    obtain ⟨V, hV⟩ := @choose_lt α ⟨a0⟩ _ _ each
    have hlb : len ≤ Rows.uptoBulk x.1 := by
      have := bulk_all ((List.range len).map D)
      rw [hx]
      simp only [List.length_map, List.length_range] at this
      simp only [Rows.uptoBulk]; omega
    refine ⟨some a, m, (List.range len).map V, by simp, (fun e => by cases e), by simpa using hl, by simpa using hlb, fun v hv => ?_, ?_⟩
    · simp only [List.mem_map, List.mem_range] at hv
      obtain ⟨i, hi, rfl⟩ := hv
      refine ⟨D i, ?_, (hV i hi).2⟩
      have := bulk_part (d := D i) (l := (List.range len).map D) (List.mem_map.2 ⟨i, List.mem_range.2 hi, rfl⟩)
      rw [hx]
      simp only [Rows.uptoBulk]; omega
    · by_cases hz : len = 0
      · subst hz; exact Or.inl rfl
      · have hl0 : 0 < (en (V 0)).length := by rw [hlen]; exact h0
        have g0 := (hV 0 (by omega)).1 0 _ (List.getElem?_eq_getElem hl0)
        have hsp : a.spot = none := by simpa [Addr.add] using World.cell?_spot g0
        obtain ⟨b, off, spot⟩ := a
        simp only at hsp
        subst hsp
        refine Or.inr ⟨b, off, rfl, ?_, fun i v hv j u hj => ?_⟩
        · have := World.block_lt_of_cell? W _ g0
          rw [add_plain, add_plain] at this
          exact this
        · have hi : i < len := by have := (List.getElem?_eq_some_iff.1 hv).1; simpa using this
          have ev : V i = v := by simpa [hi] using hv
          subst ev
          have := (hV i hi).1 j u hj
          rw [add_plain, add_plain] at this
          exact this
theorem cellsI : Tryz.prog.cellsOf 3 = 1 := by kernel_rfl
theorem cellsI6 : Tryz.prog.cellsOf 2 = 1 := by kernel_rfl
theorem cellsS : Tryz.prog.cellsOf 9 = 1 := by kernel_rfl
theorem cellsB : Tryz.prog.cellsOf 4 = 1 := by kernel_rfl
theorem cellsLI : Tryz.prog.cellsOf 44 = 1 := by kernel_rfl
theorem cellsLC : Tryz.prog.cellsOf 22 = 1 := by kernel_rfl
theorem cellsLK : Tryz.prog.cellsOf 23 = 1 := by kernel_rfl
theorem cellsC : Tryz.prog.cellsOf 52 = 4 := by kernel_rfl
theorem cellsK : Tryz.prog.cellsOf 46 = 3 := by kernel_rfl
theorem cellsV : Tryz.prog.cellsOf 56 = 3 := by kernel_rfl
theorem cellsT : Tryz.prog.cellsOf 25 = 5 := by kernel_rfl
theorem el_int {H : Type} {enc : TypeId × Value → H} {W : World} {n : Nat} {cs : List Value} {y : DataW H × List MemPlace} (h : DataW.trod enc Tryz.prog W 0 (fun _ => true) true n 3 cs = some y) : ∃ a, cs = inE a ∧ True := by
  obtain ⟨a, e, _, _⟩ := DataW.trod_int Tryz.underlying3 h
  exact ⟨a, e, trivial⟩
/-- whole numbers that came in -/
theorem open_ints {H : Type} {enc : TypeId × Value → H} {W : World} {n : Nat} {cs : List Value} {x : DataW H × List MemPlace} (h : DataW.trod enc Tryz.prog W 0 (fun _ => true) true n 44 cs = some x) :
    ∃ (P : Option Addr) (C : Nat) (l : List Int), cs = [.slice P l.length C] ∧ (P = none → C = 0) ∧ l.length ≤ C ∧ l.length ≤ Rows.uptoBulk x.1 ∧ inIn W P l := by
  obtain ⟨P, C, l, e, h1, h2, h3, _, h4⟩ := open_list (0 : Int) Tryz.underlying44 cellsI (by decide) inE (fun _ _ => True) (fun n cs y h => el_int h) inE_len h
  refine ⟨P, C, l, e, h1, h2, h3, ?_⟩
  rcases h4 with h4 | ⟨g, o, rfl, hg, hc⟩
  · exact Or.inl h4
  · refine Or.inr ⟨g, o, rfl, hg, fun i v hv => ?_⟩
    have := hc i v hv 0 _ rfl
    rw [Nat.mul_one, Nat.add_zero] at this; exact this
theorem trod_st4 {H : Type} {enc : TypeId × Value → H} {P : Program} {w : World} {base : Nat} {spare : Nat → Bool} {held : Bool} {t : TypeId} {f0 f1 f2 f3 : Field} {fuel : Nat} {cs : List Value} {x : DataW H × List MemPlace} (ht : P.underlying t = some (.struct #[f0, f1, f2, f3])) (h : DataW.trod enc P w base spare held fuel t cs = some x) :
    ∃ y0 y1 y2 y3 n, x.1 = .agg [y0.1, y1.1, y2.1, y3.1] ∧ cs.length = P.cellsOf t ∧ DataW.trod enc P w base spare held n f0.type ((cs.drop f0.offset).take (P.cellsOf f0.type)) = some y0 ∧ DataW.trod enc P w base spare held n f1.type ((cs.drop f1.offset).take (P.cellsOf f1.type)) = some y1 ∧ DataW.trod enc P w base spare held n f2.type ((cs.drop f2.offset).take (P.cellsOf f2.type)) = some y2 ∧ DataW.trod enc P w base spare held n f3.type ((cs.drop f3.offset).take (P.cellsOf f3.type)) = some y3 := by
  obtain ⟨xs, n, _, rfl, hl, hlen, hf⟩ := DataW.trod_struct ht h
  match xs, hlen with
  | [y0, y1, y2, y3], _ => exact ⟨y0, y1, y2, y3, n, by simp, hl, by simpa using hf 0 f0 rfl, by simpa using hf 1 f1 rfl, by simpa using hf 2 f2 rfl, by simpa using hf 3 f3 rfl⟩
theorem trod_st5 {H : Type} {enc : TypeId × Value → H} {P : Program} {w : World} {base : Nat} {spare : Nat → Bool} {held : Bool} {t : TypeId} {f0 f1 f2 f3 f4 : Field} {fuel : Nat} {cs : List Value} {x : DataW H × List MemPlace} (ht : P.underlying t = some (.struct #[f0, f1, f2, f3, f4])) (h : DataW.trod enc P w base spare held fuel t cs = some x) :
    ∃ y0 y1 y2 y3 y4 n, x.1 = .agg [y0.1, y1.1, y2.1, y3.1, y4.1] ∧ cs.length = P.cellsOf t ∧ DataW.trod enc P w base spare held n f0.type ((cs.drop f0.offset).take (P.cellsOf f0.type)) = some y0 ∧ DataW.trod enc P w base spare held n f1.type ((cs.drop f1.offset).take (P.cellsOf f1.type)) = some y1 ∧ DataW.trod enc P w base spare held n f2.type ((cs.drop f2.offset).take (P.cellsOf f2.type)) = some y2 ∧ DataW.trod enc P w base spare held n f3.type ((cs.drop f3.offset).take (P.cellsOf f3.type)) = some y3 ∧ DataW.trod enc P w base spare held n f4.type ((cs.drop f4.offset).take (P.cellsOf f4.type)) = some y4 := by
  obtain ⟨xs, n, _, rfl, hl, hlen, hf⟩ := DataW.trod_struct ht h
  match xs, hlen with
  | [y0, y1, y2, y3, y4], _ => exact ⟨y0, y1, y2, y3, y4, n, by simp, hl, by simpa using hf 0 f0 rfl, by simpa using hf 1 f1 rfl, by simpa using hf 2 f2 rfl, by simpa using hf 3 f3 rfl, by simpa using hf 4 f4 rfl⟩
theorem el_va {H : Type} {enc : TypeId × Value → H} {W : World} {n : Nat} {cs : List Value} {y : DataW H × List MemPlace} (h : DataW.trod enc Tryz.prog W 0 (fun _ => true) true n 56 cs = some y) : ∃ v : Va, cs = vaE v ∧ v.s.size ≤ 9223372036854775807 := by
  obtain ⟨y0, y1, y2, m, _, hl, t0, t1, t2⟩ := trod_struct3 Tryz.underlying56 h
  rw [cellsV] at hl
  match cs, hl with
  | [c0, c1, c2], _ =>
    have u0 : DataW.trod enc Tryz.prog W 0 (fun _ => true) true m 3 [c0] = some y0 := by simpa [cellsI] using t0
    have u1 : DataW.trod enc Tryz.prog W 0 (fun _ => true) true m 2 [c1] = some y1 := by simpa [cellsI6] using t1
    have u2 : DataW.trod enc Tryz.prog W 0 (fun _ => true) true m 9 [c2] = some y2 := by simpa [cellsS] using t2
    obtain ⟨a, e0, _, _⟩ := DataW.trod_int Tryz.underlying3 u0
    obtain ⟨b, e1, _, wb⟩ := DataW.trod_int Tryz.underlying2 u1
    obtain ⟨s, e2, _, ws⟩ := DataW.trod_string Tryz.underlying9 u2
    simp only [List.cons.injEq, and_true] at e0 e1 e2
    subst e0 e1 e2
    exact ⟨⟨a, b, s⟩, rfl, by unfold maxLen at ws; exact ws⟩
theorem el_cl {H : Type} {enc : TypeId × Value → H} {W : World} {n : Nat} {cs : List Value} {y : DataW H × List MemPlace} (h : DataW.trod enc Tryz.prog W 0 (fun _ => true) true n 52 cs = some y) : ∃ c : Cl, cs = clE c ∧ c.nm.size ≤ 9223372036854775807 := by
  obtain ⟨y0, y1, y2, y3, m, _, hl, t0, t1, t2, t3⟩ := trod_st4 Tryz.underlying52 h
  rw [cellsC] at hl
  match cs, hl with
  | [c0, c1, c2, c3], _ =>
    have u0 : DataW.trod enc Tryz.prog W 0 (fun _ => true) true m 9 [c0] = some y0 := by simpa [cellsS] using t0
    have u1 : DataW.trod enc Tryz.prog W 0 (fun _ => true) true m 3 [c1] = some y1 := by simpa [cellsI] using t1
    have u2 : DataW.trod enc Tryz.prog W 0 (fun _ => true) true m 3 [c2] = some y2 := by simpa [cellsI] using t2
    have u3 : DataW.trod enc Tryz.prog W 0 (fun _ => true) true m 4 [c3] = some y3 := by simpa [cellsB] using t3
    obtain ⟨s, e0, _, ws⟩ := DataW.trod_string Tryz.underlying9 u0
    obtain ⟨a, e1, _, _⟩ := DataW.trod_int Tryz.underlying3 u1
    obtain ⟨b, e2, _, _⟩ := DataW.trod_int Tryz.underlying3 u2
    obtain ⟨q, e3, _⟩ := DataW.trod_bool Tryz.underlying4 u3
    simp only [List.cons.injEq, and_true] at e0 e1 e2 e3
    subst e0 e1 e2 e3
    exact ⟨⟨s, a, b, q⟩, rfl, by unfold maxLen at ws; exact ws⟩
/-- what is known of a key that came in -/
def krG {H : Type} (W : World) (d : DataW H) (r : Kr) : Prop := r.k.nm.size ≤ 9223372036854775807 ∧ inIn W r.p r.k.cs ∧ (r.p = none → r.c = 0) ∧ r.k.cs.length ≤ r.c ∧ r.k.cs.length ≤ Rows.uptoBulk d
theorem el_kr {H : Type} {enc : TypeId × Value → H} {W : World} {n : Nat} {cs : List Value} {y : DataW H × List MemPlace} (h : DataW.trod enc Tryz.prog W 0 (fun _ => true) true n 46 cs = some y) : ∃ r : Kr, cs = krE r ∧ krG W y.1 r := by
  obtain ⟨y0, y1, y2, m, hx, hl, t0, t1, t2⟩ := trod_struct3 Tryz.underlying46 h
  rw [cellsK] at hl
  match cs, hl with
  | [c0, c1, c2], _ =>
    have u0 : DataW.trod enc Tryz.prog W 0 (fun _ => true) true m 9 [c0] = some y0 := by simpa [cellsS] using t0
    have u1 : DataW.trod enc Tryz.prog W 0 (fun _ => true) true m 44 [c1] = some y1 := by simpa [cellsLI] using t1
    have u2 : DataW.trod enc Tryz.prog W 0 (fun _ => true) true m 4 [c2] = some y2 := by simpa [cellsB] using t2
    obtain ⟨s, e0, _, ws⟩ := DataW.trod_string Tryz.underlying9 u0
    obtain ⟨P, C, l, e1, h1, h2, h3, h4⟩ := open_ints u1
    obtain ⟨q, e2, _⟩ := DataW.trod_bool Tryz.underlying4 u2
    simp only [List.cons.injEq, and_true] at e0 e1 e2
    subst e0 e1 e2
    refine ⟨⟨⟨s, l, q⟩, P, C⟩, rfl, by unfold maxLen at ws; exact ws, h4, h1, h2, ?_⟩
    rw [hx]
    simp only [Rows.uptoBulk, Rows.uptoBulkAll]
    show l.length ≤ _
    omega
/-- columns that came in -/
theorem open_cols {H : Type} {enc : TypeId × Value → H} {W : World} {n : Nat} {cs : List Value} {x : DataW H × List MemPlace} (h : DataW.trod enc Tryz.prog W 0 (fun _ => true) true n 22 cs = some x) :
    ∃ (P : Option Addr) (C : Nat) (l : List Cl), cs = [.slice P l.length C] ∧ (P = none → C = 0) ∧ l.length ≤ C ∧ l.length ≤ Rows.uptoBulk x.1 ∧ (∀ c ∈ l, c.nm.size ≤ 9223372036854775807) ∧ clIn W P l := by
  obtain ⟨P, C, l, e, h1, h2, h3, hg, h4⟩ := open_list (⟨⟨#[]⟩, 0, 0, false⟩ : Cl) Tryz.underlying22 cellsC (by decide) clE (fun _ c => c.nm.size ≤ 9223372036854775807) (fun n cs y h => el_cl h) clE_len h
  refine ⟨P, C, l, e, h1, h2, h3, fun c hc => (hg c hc).elim (fun _ h => h.2), ?_⟩
  rcases h4 with h4 | ⟨g, o, rfl, hg, hc⟩
  · exact Or.inl h4
  · exact Or.inr ⟨g, o, rfl, hg, fun i v hv => ⟨hc i v hv 0 _ rfl, hc i v hv 1 _ rfl, hc i v hv 2 _ rfl, hc i v hv 3 _ rfl⟩⟩
/-- keys that came in -/
theorem open_keys {H : Type} {enc : TypeId × Value → H} {W : World} {n : Nat} {cs : List Value} {x : DataW H × List MemPlace} (h : DataW.trod enc Tryz.prog W 0 (fun _ => true) true n 23 cs = some x) :
    ∃ (P : Option Addr) (C : Nat) (l : List Ky), cs = [.slice P l.length C] ∧ l.length ≤ Rows.uptoBulk x.1 ∧ (∀ k ∈ l, k.nm.size ≤ 9223372036854775807 ∧ k.cs.length ≤ Rows.uptoBulk x.1) ∧ kyIn W P l := by
  obtain ⟨P, C, l, e, h1, h2, h3, hg, h4⟩ := open_list (⟨⟨⟨#[]⟩, [], false⟩, none, 0⟩ : Kr) Tryz.underlying23 cellsK (by decide) krE (krG W) (fun n cs y h => el_kr h) krE_len h
  refine ⟨P, C, l.map (·.k), by rw [List.length_map]; exact e, by rw [List.length_map]; exact h3, fun k hk => ?_, ?_⟩
  · obtain ⟨r, hr, rfl⟩ := List.mem_map.1 hk
    obtain ⟨d, hd, hG⟩ := hg r hr
    exact ⟨hG.1, Nat.le_trans hG.2.2.2.2 hd⟩
  · rcases h4 with h4 | ⟨g, o, rfl, hgt, hc⟩
    · exact Or.inl (by rw [h4]; rfl)
    · refine Or.inr ⟨g, o, rfl, hgt, fun i k hk => ?_⟩
      rw [List.getElem?_map] at hk
      cases hr : l[i]? with
      | none => rw [hr] at hk; cases hk
      | some r =>
        rw [hr] at hk
        cases hk
        obtain ⟨d, _, hG⟩ := hg r (List.mem_of_getElem? hr)
        exact ⟨r.p, r.c, hc i r hr 0 _ rfl, hc i r hr 1 _ rfl, hc i r hr 2 _ rfl, hG.2.1, hG.2.2.1, hG.2.2.2.1⟩
/-- a form that came in -/
theorem arg_tb {H : Type} {enc : TypeId × Value → H} {W : World} {base : Nat} {v : Value} {d : DataW H} {p : List MemPlace} (hv : Value.okWide Tryz.prog W .any base 25 v) (h : DataW.Trod enc Tryz.prog W 0 (fun _ => true) true 25 v d p) :
    ∃ (t : Tb) (P Q : Option Addr) (C D : Nat), v = tbV t P Q C D ∧ tbIn W t P Q ∧ (P = none → C = 0) ∧ (Rows.uptoBulk d ≤ 1048576 → tbG t) := by
  obtain ⟨ca, rfl, _⟩ := okWide_struct Tryz.underlying25 hv
  obtain ⟨n, hn⟩ := h
  obtain ⟨y0, y1, y2, y3, y4, m, hx, hl, t0, t1, t2, t3, t4⟩ := trod_st5 Tryz.underlying25 hn
  rw [cellsT] at hl
  have hl2 : ca.toList.length = 5 := by simpa [Value.cells] using hl
  have hca : (Value.agg ca).cells.toList = ca.toList := rfl
  rw [hca] at t0 t1 t2 t3 t4
  obtain ⟨c0, c1, c2, c3, c4, ec⟩ : ∃ c0 c1 c2 c3 c4, ca.toList = [c0, c1, c2, c3, c4] := by
    match ca.toList, hl2 with
    | [c0, c1, c2, c3, c4], _ => exact ⟨c0, c1, c2, c3, c4, rfl⟩
  rw [ec] at t0 t1 t2 t3 t4
  have u0 : DataW.trod enc Tryz.prog W 0 (fun _ => true) true m 9 [c0] = some y0 := by simpa [cellsS] using t0
  have u1 : DataW.trod enc Tryz.prog W 0 (fun _ => true) true m 22 [c1] = some y1 := by simpa [cellsLC] using t1
  have u2 : DataW.trod enc Tryz.prog W 0 (fun _ => true) true m 23 [c2] = some y2 := by simpa [cellsLK] using t2
  have u3 : DataW.trod enc Tryz.prog W 0 (fun _ => true) true m 3 [c3] = some y3 := by simpa [cellsI] using t3
  have u4 : DataW.trod enc Tryz.prog W 0 (fun _ => true) true m 3 [c4] = some y4 := by simpa [cellsI] using t4
  obtain ⟨s, e0, _, ws⟩ := DataW.trod_string Tryz.underlying9 u0
  obtain ⟨P, C, l, e1, h1, _, h3, h4, h5⟩ := open_cols u1
  obtain ⟨Q, D, k, e2, k1, k2, k3⟩ := open_keys u2
  obtain ⟨a, e3, _, _⟩ := DataW.trod_int Tryz.underlying3 u3
  obtain ⟨b, e4, _, _⟩ := DataW.trod_int Tryz.underlying3 u4
  simp only [List.cons.injEq, and_true] at e0 e1 e2 e3 e4
  subst e0 e1 e2 e3 e4
  refine ⟨⟨s, l, k, a, b⟩, P, Q, C, D, by rw [show ca = ca.toList.toArray by simp, ec], ⟨h5, k3⟩, h1, fun hb => ?_⟩
  have hxd : d = .agg [y0.1, y1.1, y2.1, y3.1, y4.1] := hx
  rw [hxd] at hb
  simp only [Rows.uptoBulk, Rows.uptoBulkAll] at hb
  refine ⟨by unfold maxLen at ws; exact ws, ?_, ?_, h4, fun q hq => ⟨(k2 q hq).1, ?_⟩⟩
  · show l.length ≤ _; omega
  · show k.length ≤ _; omega
  · have := (k2 q hq).2; omega
/-- a row that came in -/
theorem arg_row {H : Type} {enc : TypeId × Value → H} {W : World} {base : Nat} {v : Value} {d : DataW H} {p : List MemPlace} (hv : Value.okWide Tryz.prog W .any base 27 v) (h : DataW.Trod enc Tryz.prog W 0 (fun _ => true) true 27 v d p) :
    ∃ (r : List Va) (R : Option Addr) (D : Nat), v = .slice R r.length D ∧ rowIn W R r ∧ (R = none → D = 0) ∧ r.length ≤ Rows.uptoBulk d ∧ ∀ v ∈ r, v.s.size ≤ 9223372036854775807 := by
  obtain ⟨a, len, cap, rfl⟩ := okWide_slice Tryz.underlying27 hv
  obtain ⟨n, hn⟩ := h
  obtain ⟨P, C, l, e, h1, h2, h3, hg, h4⟩ := open_list (⟨0, 0, ⟨#[]⟩⟩ : Va) Tryz.underlying27 cellsV (by decide) vaE (fun _ v => v.s.size ≤ 9223372036854775807) (fun n cs y h => el_va h) vaE_len hn
  refine ⟨l, P, C, by simpa [Value.cells] using e, ?_, h1, h3, fun c hc => (hg c hc).elim (fun _ h => h.2)⟩
  rcases h4 with h4 | ⟨g, o, rfl, hg, hc⟩
  · exact Or.inl h4
  · exact Or.inr ⟨g, o, rfl, hg, fun i v hv => ⟨hc i v hv 0 _ rfl, hc i v hv 1 _ rfl, hc i v hv 2 _ rfl⟩⟩
end Go.Proofs.YtecebjfcokmmkaaGreatDoor
